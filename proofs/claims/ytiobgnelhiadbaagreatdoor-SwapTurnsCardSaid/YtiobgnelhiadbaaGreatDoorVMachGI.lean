/- Package mach as it has landed: output: a word is laid behind the output. Package mach as it has landed: interrupt, Stop, Step. Package mach as it has landed: Step. Package mach as it has landed: New, and what a machine answers of its parts. Package mach as it has landed: New, SetPC, T, Out; what is done to the machine's own file and memory. -/
import Derived.Test.YtiobgnelhiadbaaGreatDoorVMachGB
import Derived.Deep.RegionLaw
import Derived.Deep.RegionLawGrows
import Derived.Laws.AppendOwn
import Derived.ArgAppend
import Derived.Test.YtiobgnelhiadbaaGreatDoorVBaseG
import Derived.Great.BuildSlice
import Derived.Great.Ranges
import Derived.Deep.OwnRows
namespace Go.Proofs.YtiobgnelhiadbaaGreatDoor.K6
open Go.RowKit
set_option linter.unusedVariables false
section
variable {w : World} {b fb mb g x : Nat} {cs os : Value} {G : Nat → Prop} {m : MS}
theorem bel_alloc' {a w : World} {o : Obj} (h : Below a.heap.size a w) : Below a.heap.size a (w.alloc o) := h.alloc h.size o
theorem words_under : Tryz.prog.underlying 25 = some (.slice 22) := by kernel_rfl
theorem words_parts : (Tryz.prog.info? 22).map (fun i => (i.zero, i.size, i.bytes)) = some (some (.int .u32 0), 1, 4) := by kernel_rfl
theorem bsL_snoc (f : Nat → Int) (n : Nat) (u : Int) : bsL .u32 f n ++ [.int .u32 u] = bsL .u32 (F3.upd f n u) (n + 1) := by
  unfold bsL
  rw [List.range_succ, List.map_append]
  congr 1
  · apply List.map_congr_left
    intro i hi
    have : i ≠ n := by simp at hi; omega
    simp [F3.upd, this]
  · simp [F3.upd]
/-- A word is laid behind a row of one's own. -/
theorem append_tell (ty : TypeId) (s : Value) (n : Nat) (f : Nat → Int) (u : Int) (hown : w.ownsRow 0 22 1 s n (bsL .u32 f n)) (c cc : Nat) (hc : w.heap[c]? = some (.cells #[.int .u32 u] 22 (0, 0))) (hn : n ≤ 1000000) :
    ∃ g' c' w', (Builtin.append_ #[25, 25] ty #[s, .slice (some ⟨c, 0, none⟩) 1 cc]).run Tryz.prog w = .ok (.slice (some ⟨g', 0, none⟩) (n + 1) c') w' ∧ w'.ownsRow 0 22 1 (.slice (some ⟨g', 0, none⟩) (n + 1) c') (n + 1) (bsL .u32 (F3.upd f n u) (n + 1)) ∧ w.grownBy w' s.ownBlock ∧ (s.ownBlock = some g' ∨ w.heap.size ≤ g') := by
  obtain ⟨i0, hi, hz0, hz1, hz2⟩ := info_parts words_parts
  have hnews : ∀ j v, [Value.int .u32 u][j]? = some v → w.cell? ((⟨c, 0, none⟩ : Addr).add j) = some v := fun j v hj => by
    cases j with
    | zero => rw [add_off, cell_of_row _ _ _ _ _ _ hc]; simpa using hj
    | succ j => simp at hj
  have h1 : ∀ v ∈ [Value.int .u32 u], v.oneCell' = true := fun v hv => by simp at hv; subst hv; rfl
  obtain ⟨v', w', hrun, r1, r2, r3⟩ := run_append_own (P := Tryz.prog) w 0 25 ty 22 i0 (.int .u32 0) 1 4 words_under hi hz0 hz1 hz2 rfl (by decide) s n (bsL .u32 f n) hown ⟨c, 0, none⟩ 1 cc [.int .u32 u] rfl hnews h1 (by unfold maxLen; omega) (by omega) (Nat.zero_le _)
  rw [bsL_snoc] at r1
  obtain ⟨g', c', rfl⟩ : ∃ g' c', v' = .slice (some ⟨g', 0, none⟩) (n + 1) c' := by
    obtain ⟨_, ⟨_, h0⟩ | ⟨g', c', _, rfl, _⟩⟩ := r1
    · omega
    · exact ⟨g', c', rfl⟩
  refine ⟨g', c', w', hrun, r1, r2, ?_⟩
  obtain ⟨hlen, ⟨rfl, h0⟩ | ⟨b0, cap, cur, rfl, _, hb0, hnc, hcm, hcs, hct⟩⟩ := hown
  · right
    subst h0
    obtain ⟨v2, w2, hrun2, q1, _⟩ := run_append_own (P := Tryz.prog) w w.heap.size 25 ty 22 i0 (.int .u32 0) 1 4 words_under hi hz0 hz1 hz2 rfl (by decide) (.slice none 0 0) 0 [] (World.ownsRow_nil w _ _ _) ⟨c, 0, none⟩ 1 cc [.int .u32 u] rfl hnews h1 (by unfold maxLen; omega) (by omega) (Nat.le_refl _)
    rw [hrun2] at hrun
    simp only [Result.ok.injEq] at hrun
    obtain ⟨rfl, rfl⟩ := hrun
    exact (q1.lt g' rfl).1
  · by_cases hroom : n + 1 ≤ cap
    · left
      have := run_append_room_cells (P := Tryz.prog) w 25 ty 22 i0 words_under hi b0 0 n cap ⟨c, 0, none⟩ 1 cc [.int .u32 u] (by rw [hz1]; rfl) hnews h1 hroom
        (fun j hj => by
          obtain rfl : j = 0 := by simpa using hj
          rw [hz1, cell_of_row _ _ _ _ _ _ hb0]; simp; omega)
        (fun j hj => by rw [frozen_of_row _ _ _ _ _ hb0])
      rw [this] at hrun
      simp only [Result.ok.injEq, Value.slice.injEq, Option.some.injEq, Addr.mk.injEq] at hrun
      simp [Value.ownBlock, hrun.1.1.1]
    · right
      obtain ⟨v2, w2, hrun2, q1, _⟩ := run_append_arg_grows (P := Tryz.prog) w 25 ty 22 i0 (.int .u32 0) 1 4 words_under hi hz0 hz1 hz2 rfl (by decide) ⟨b0, 0, none⟩ n cap (bsL .u32 f n) (by rw [bsL_len]; omega)
        (fun j v hj => by
          have hjn : j < n := by
            rcases Nat.lt_or_ge j n with hh | hh
            · exact hh
            · rw [List.getElem?_eq_none (by rw [bsL_len]; omega)] at hj; cases hj
          rw [add_off, Nat.zero_add, cell_of_row _ _ _ _ _ _ hb0, ← hj, ← hct, List.getElem?_take_of_lt (by omega)]; simp)
        ⟨c, 0, none⟩ 1 cc [.int .u32 u] rfl hnews (by omega) (by unfold maxLen; omega) (by omega)
      rw [hrun2] at hrun
      simp only [Result.ok.injEq] at hrun
      obtain ⟨rfl, rfl⟩ := hrun
      exact (q1.lt g' rfl).1
theorem step_tell {ops : Array Oper} {o : Oper} {a : Act} {w : World} {K : Act → World → Prop} {Q : Exit → Act → World → Prop} {E : Prop} (hg : o.guard = none) (sx x : Operand)
    (hop : o.op = Op.call { callee := Callee.builtin Builtin.append, args := #[sx, x], argTypes := #[25, 25] })
    (s : Value) (n : Nat) (f : Nat → Int) (u : Int) (hs : a.eval sx = s) (hown : w.ownsRow 0 22 1 s n (bsL .u32 f n)) (c cc : Nat) (hx : a.eval x = .slice (some ⟨c, 0, none⟩) 1 cc) (hc : w.heap[c]? = some (.cells #[.int .u32 u] 22 (0, 0))) (hn : n ≤ 1000000)
    (hK : ∀ g' c' w', w'.ownsRow 0 22 1 (.slice (some ⟨g', 0, none⟩) (n + 1) c') (n + 1) (bsL .u32 (F3.upd f n u) (n + 1)) → w.grownBy w' s.ownBlock → (s.ownBlock = some g' ∨ w.heap.size ≤ g') → K (a.put o.dst (.slice (some ⟨g', 0, none⟩) (n + 1) c')) w') :
    if Region.wanted o (yielded ops a.tmps) = true then Oper.wp Tryz.prog o a w K Q else E := by
  have hw : Region.wanted o (yielded ops a.tmps) = true := by simp [Region.wanted, hg]
  rw [if_pos hw]
  obtain ⟨g', c', w', hrun, r1, r2, r3⟩ := append_tell (w := w) o.type s n f u hown c cc hc hn
  unfold Oper.wp
  simp [execOp, hop, resolve, invoke, builtin, hs, hx, hrun, Result.andThen]
  exact hK g' c' w' r1 r2 r3
/-- The output is a word longer. -/
theorem MachP.told {W w' : World} {g' c' : Nat} {u : Int} (h : MachP W b fb mb g x cs os G m) (hu : W32 u) (hown : w'.ownsRow 0 22 1 (.slice (some ⟨g', 0, none⟩) (m.ol + 1) c') (m.ol + 1) (bsL .u32 (F3.upd m.out m.ol u) (m.ol + 1))) (hg : W.grownBy w' os.ownBlock) (hb : os.ownBlock = some g' ∨ W.heap.size ≤ g') :
    Box w' b (mcell (.pointer (some ⟨fb, 0, none⟩)) (.pointer (some ⟨mb, 0, none⟩)) cs os m) ∧
    MachP (w'.setCell ⟨b, 43, none⟩ (.slice (some ⟨g', 0, none⟩) (m.ol + 1) c')) b fb mb g x cs (.slice (some ⟨g', 0, none⟩) (m.ol + 1) c') (fun i => G i ∨ i = g') (m.tell u) ∧
    Turns G W (w'.setCell ⟨b, 43, none⟩ (.slice (some ⟨g', 0, none⟩) (m.ol + 1) c')) := by
  have ne : ∀ (y : Nat) (c : Array Value) (t : TypeId), W.heap[y]? = some (.cells c t (0, 0)) → t ≠ 22 → some y ≠ os.ownBlock := fun y c t hy ht e => not_words hy ht (own_typ h.outs e.symm) rfl
  have keep : ∀ (y : Nat) (c : Array Value) (t : TypeId), W.heap[y]? = some (.cells c t (0, 0)) → t ≠ 22 → w'.heap[y]? = W.heap[y]? := fun y c t hy ht => hg.block y (M5.heap_lt hy) (ne y c t hy ht)
  have hB : Box w' b (mcell (.pointer (some ⟨fb, 0, none⟩)) (.pointer (some ⟨mb, 0, none⟩)) cs os m) := (keep _ _ _ h.box (by decide)).trans h.box
  have hbs := hB.set 43 (.slice (some ⟨g', 0, none⟩) (m.ol + 1) c')
  rw [put_os _ _ _ _ m _ (m.tell u) (fun _ => rfl)] at hbs
  have tab : ∀ y, isTab y → some y ≠ os.ownBlock := fun y hy e => h.far y (h.go y e.symm).1 hy
  have oth : ∀ y, y ≠ b → (w'.setCell ⟨b, 43, none⟩ (.slice (some ⟨g', 0, none⟩) (m.ol + 1) c')).heap[y]? = w'.heap[y]? := fun y hy => Below.heap_setCell _ _ _ _ hy
  have T : Turns G W (w'.setCell ⟨b, 43, none⟩ (.slice (some ⟨g', 0, none⟩) (m.ol + 1) c')) := by
    refine ⟨hg.os, hg.tape, hg.output, by simpa [World.setCell] using hg.size, fun i hi hn => ?_⟩
    rw [oth i (fun e => hn (e ▸ h.gb))]
    exact hg.block i hi (fun e => hn (h.go i e.symm).1)
  have hs' : w'.heap.size ≤ (w'.setCell ⟨b, 43, none⟩ (.slice (some ⟨g', 0, none⟩) (m.ol + 1) c')).heap.size := by simp [World.setCell]
  have hg' : g' ≠ b := fun e => by
    obtain ⟨_, ⟨_, h0⟩ | ⟨b0, _, cur, hs, _, hgg, _⟩⟩ := hown
    · omega
    · have : b0 = g' := by injection hs with hs; injection hs with hs; injection hs with hs; exact hs.symm
      subst this
      rw [e] at hgg
      unfold Box at hB
      rw [hB] at hgg
      simp at hgg
  have hlt' : g' < w'.heap.size := (hown.lt g' rfl).2
  refine ⟨hB, { h with
    box := hbs
    file := (oth _ h.bf.symm).trans ((keep _ _ _ h.file (by decide)).trans h.file)
    mbox := (oth _ h.bm.symm).trans ((keep _ _ _ h.mbox (by decide)).trans h.mbox)
    row := (oth _ h.bg.symm).trans ((keep _ _ _ h.row (by decide)).trans h.row)
    chs := ?_
    outs := ?_
    gb := .inl h.gb, gf := .inl h.gf, gm := .inl h.gm, gg := .inl h.gg
    gx := fun hc => .inl (h.gx hc)
    go := ?_
    lt := ?_
    far := ?_
    tab := h.tab.turns T h.far
    ok := h.ok.tell hu }, T⟩
  · refine h.chs.same fun hn => ?_
    have hxb : x ≠ b := not_words h.box (by decide) (h.chs.typ hn)
    rw [oth x hxb]
    exact hg.block x (h.lt _ (h.gx hn)) (fun e => (h.go x e.symm).2 hn rfl)
  · exact own_same hown fun j hj => by
      obtain rfl : g' = j := by simpa [Value.ownBlock] using hj
      exact oth g' hg'
  · intro j hj
    obtain rfl : g' = j := by simpa [Value.ownBlock] using hj
    refine ⟨.inr rfl, fun hc e => ?_⟩
    rcases hb with hb | hb
    · exact (h.go g' hb).2 hc e
    · have := h.lt _ (h.gx hc); omega
  · intro i hi
    rcases hi with hi | rfl
    · exact Nat.lt_of_lt_of_le (h.lt i hi) (Nat.le_trans hg.size hs')
    · exact Nat.lt_of_lt_of_le hlt' hs'
  · intro i hi ht
    rcases hi with hi | rfl
    · exact h.far i hi ht
    · rcases hb with hb | hb
      · exact h.far i (h.go i hb).1 ht
      · have := h.tab.lt ht; omega
set_option maxRecDepth 100000 in
set_option maxHeartbeats 2000000 in
theorem output_at (v : XV) (h : MachP w v.b fb mb g x cs os G m) (ha : W32 v.a) (hol : m.ol ≤ 1000000) :
    Calls Tryz.prog 226 #[.agg (xrow v)] w fun e w' => Goes w v.b G m ((m.tell v.a).on) e w' := by
  have A := Lib.hid h
  have hcf : Hid (w.heap.size ≠ fb) := by have := h.lt _ h.gf; unfold Hid; omega
  have hcb : Hid (w.heap.size ≠ v.b) := by have := h.lt _ h.gb; unfold Hid; omega
  have hcg : Hid (w.heap.size ≠ g) := by have := h.lt _ h.gg; unfold Hid; omega
  have HA := Lib.hid ha
  have HNO : Hid (some w.heap.size ≠ os.ownBlock) := fun e => by have := h.lt _ (h.go _ e.symm).1; omega
  clear h ha
  go_enter Tryz.func226, Tryz.ntmps226
  go_upto_region 1 with (refine x_box rfl _ rfl _ rfl v rfl ?_; intro V r1 b1; obtain ⟨x0, x1, x2, x3, x4, x5, x6, x7, x8⟩ := r1.out.all; obtain ⟨k0, k1, k2, k3, k4, k5, k6, k7, k42, k43, k44, k45⟩ := (A.out.bel b1).cells)
  have P1 := Lib.hid (A.out.bel b1)
  go_wp2_with fail
  have HB : Hid (Below V.heap.size V (V.drew.alloc (.cells #[.int .u32 v.a] 22))) := bel_alloc' (Below.refl _ V).drew
  have P2 := Lib.hid (P1.out.bel HB.out)
  have r2 := Lib.hid (r1.out.bel HB.out)
  have HGc : Hid (¬ G w.heap.size) := fun e => Nat.lt_irrefl _ (A.out.lt _ e)
  have e43 : ((V.alloc (.cells #[.int .u32 v.a] 22)).drew).cell? ⟨v.b, 43, none⟩ = some os := P2.out.cells.2.2.2.2.2.2.2.2.2.1
  have e0 : ((V.alloc (.cells #[.int .u32 v.a] 22)).drew).cell? ⟨w.heap.size, 0, none⟩ = some (.pointer (some ⟨v.b, 0, none⟩)) := r2.out.all.1
  go_region_law (refine step_tell rfl (.tmp 9) (.tmp 12) rfl os m.ol m.out v.a rfl P2.out.outs V.heap.size 1 rfl (heap_alloc_last V.drew _) hol ?_; intro g' c' w' hown hgr hb; obtain ⟨hB, P3, T3⟩ := P2.out.told HA.out hown hgr hb; have P3 := Lib.hid P3; have T3 := Lib.hid T3; have hb := Lib.hid hb; have e0' := hgr.cell (a := ⟨w.heap.size, 0, none⟩) e0 HNO.out; have c43 := hB.cell (j := 43) (by decide); have f43 := hB.frozen 43; clear hown hgr hB)
  all_goals (
    have r3 := Lib.hid (show XAt _ _ v from T3.out.heap HGc.out r2.out)
    clear c43 f43 e0' e43 e0 x0 x1 x2 x3 x4 x5 x6 x7 x8 k0 k1 k2 k3 k4 k5 k6 k7 k42 k43 k44 k45
    generalize w'.setCell ⟨v.b, 43, none⟩ (.slice (some ⟨g', 0, none⟩) (m.ol + 1) c') = V3 at *
    go_wp2_with (refine x_load rfl _ rfl _ rfl _ v rfl r3.out ?_)
    refine (following_at v P3.out).mono ?_; rintro e w4 ⟨rfl, g4⟩
    have P4 := Lib.hid (P3.out.bel g4)
    go_wp2_with fail
    go_ret
    refine ⟨rfl, _, P4.out.b, (Turns.of_bel (bel_trans b1 HB.out)).trans (T3.out.trans (Turns.of_bel g4) (fun _ hi => .inl hi)) (fun _ hi => .inl hi), fun i hi => ?_⟩
    rcases hi with hi | rfl
    · exact .inl hi
    · exact hb.out.imp (fun e => (A.out.go _ e).1) (fun e => Nat.le_trans (bel_trans b1 HB.out).size e))
end
end Go.Proofs.YtiobgnelhiadbaaGreatDoor.K6
namespace Go.Proofs.YtiobgnelhiadbaaGreatDoor.K6
open Go.RowKit
set_option linter.unusedVariables false
section
variable {w : World} {b fb mb g x : Nat} {cs os : Value} {G : Nat → Prop} {m : MS}
theorem bel_alK {a w : World} {o : Obj} (h : Below a.heap.size a w) : Below a.heap.size a (w.alloc o) := h.alloc h.size o
theorem interrupt_at (lv : Int) (h : MachP w b fb mb g x cs os G m) (h0 : 0 ≤ lv) (h1 : lv ≤ 15) :
    Calls Tryz.prog 84 #[.pointer (some ⟨b, 0, none⟩), .int .u8 lv] w fun e w' => e = .returned (.tuple #[]) ∧ MachP w' b fb mb g x cs os G ((m.trap lv (16 + lv) m.pc).lvl lv) ∧ w.grownBy w' (some b) := by
  have HE := Lib.hid (enter_at lv (16 + lv) m.pc h h0 (by omega) (by omega) (by omega) h.ok.pc)
  have HK := Lib.hid (h.ok.trap (b := lv) (k := 16 + lv) (pc := m.pc) h0 (by omega) (by omega) h.ok.pc)
  obtain ⟨_, _, k2, _⟩ := h.cells
  clear h
  go_enter Tryz.func84, Tryz.ntmps84
  go_wp2_with fail
  refine (HE.out).mono ?_; rintro e w1 ⟨rfl, P1, g1⟩
  have c2 := P1.cells.2.2.1
  have f2 := P1.frozen 2
  obtain ⟨P2, g2⟩ := P1.put1 2 (.int .u32 (256 + 16 * (16 + lv))) (put_pc _ _ _ _ _ _) ⟨rfl, rfl, rfl, rfl, rfl, rfl, rfl, rfl⟩ HK.out
  have c4 := P2.cells.2.2.2.2.1
  have f4 := P2.frozen 4
  obtain ⟨P3, g3⟩ := P2.put1 4 (.int .u8 lv) (put_pil _ _ _ _ _ _) ⟨rfl, rfl, rfl, rfl, rfl, rfl, rfl, rfl⟩ (HK.out.lvl h0 h1)
  have P3 := Lib.hid P3
  have G3 := Lib.hid (only_trans (only_trans g1 g2) g3)
  clear P1 P2 g1 g2 g3
  go_wp2_with fail
  go_end0
  exact ⟨rfl, P3.out, G3.out⟩
theorem stop_at (h : MachP w b fb mb g x cs os G m) :
    Calls Tryz.prog 51 #[.pointer (some ⟨b, 0, none⟩)] w fun e w' => e = .returned (.agg #[.int .u8 m.sk, .int .u32 m.sv]) ∧ Below w.heap.size w w' := by
  have A := Lib.hid h
  have g0 : Below w.heap.size w (w.alloc (.cells #[.int .u8 0, .int .u32 0] 37)) := bel_alK (Below.refl _ _)
  obtain ⟨k0, _, _, _, _, _, _, _, _, _, k44, k45⟩ := (h.bel g0).cells
  clear h
  go_enter Tryz.func51, Tryz.ntmps51
  go_wp2_with fail
  refine (isObject_yes b _ _ k0).mono ?_; rintro e w1 ⟨rfl, rfl⟩
  go_wp2_with fail
  refine bodyPost_ret (v := .agg #[.int .u8 m.sk, .int .u32 m.sv]) ?_ rfl ⟨rfl, ?_⟩
  · simp [results, Tryz.results51, go_sem]
  · exact bel_alK (Below.refl _ _)
end
end Go.Proofs.YtiobgnelhiadbaaGreatDoor.K6
namespace Go.Proofs.YtiobgnelhiadbaaGreatDoor.K6
open Go.RowKit
set_option linter.unusedVariables false
section
variable {w : World} {b fb mb g x : Nat} {cs os : Value} {G : Nat → Prop} {m : MS}
theorem MachP.aside (h : MachP w b fb mb g x cs os G m) (y j : Nat) (v : Value) (hy : ¬ G y) (ht : ¬ isTab y) : MachP (w.setCell ⟨y, j, none⟩ v) b fb mb g x cs os G m :=
  h.same (fun i hi => Below.heap_setCell _ _ _ _ (fun e => hy ((show i = y from e) ▸ hi))) (by simp [World.setCell]) (h.tab.turns (Turns.of_only (G := fun i => i = y) (only_cell (bel_only (Below.refl _ _) y) j v) rfl) (fun i e => e ▸ ht))
theorem put2_row {W : World} {z : Nat} {x0 x1 y0 y1 : Value} {t : TypeId} (h : W.heap[z]? = some (.cells #[x0, x1] t (0, 0))) :
    ((W.setCell ⟨z, 0, none⟩ y0).setCell ⟨z, 1, none⟩ y1).heap[z]? = some (.cells #[y0, y1] t (0, 0)) := by
  simp [World.setCell, Array.getElem?_modify, h]
/-- What a Step ends with: the stop is read, and laid in a block of the call's own. -/
theorem step_end {V w3 : World} {z : Nat} {m' : MS} {y0 y1 : Value} (A : MachP w b fb mb g x cs os G m) (hV : Below w.heap.size w V) (hz : w.heap.size ≤ z) (hzV : z < V.heap.size) (L : Left V b G m' w3) :
    Left w b G m' ((w3.setCell ⟨z, 0, none⟩ y0).setCell ⟨z, 1, none⟩ y1) := by
  obtain ⟨G3, ⟨fb3, mb3, g3, x3, cs3, os3, P3⟩, T3, n3⟩ := L
  have hz3 : ¬ G3 z := fun e => by
    rcases n3 z e with e | e
    · have := A.lt _ e; omega
    · omega
  have hzt : ¬ isTab z := fun e => by have := A.tab.lt e; omega
  refine ⟨G3, ((P3.aside z 0 y0 hz3 hzt).aside z 1 y1 hz3 hzt).b, ?_, fun i hi => (n3 i hi).imp id (fun e => Nat.le_trans hV.size e)⟩
  have T := (Turns.of_bel (G := G) hV).trans T3 (fun _ hi => .inl hi)
  exact ⟨T.os, T.tape, T.output, by simpa [World.setCell] using T.size, fun i hi hn => by
    have hiz : i ≠ z := by omega
    rw [Below.heap_setCell _ _ _ _ hiz, Below.heap_setCell _ _ _ _ hiz]; exact T.block i hi hn⟩
/-- A machine that stands still. -/
theorem step_still (lv : Int) (h : MachP w b fb mb g x cs os G m) (hsk : m.sk ≠ 0) :
    Calls Tryz.prog 15 #[.pointer (some ⟨b, 0, none⟩), .int .u8 lv] w fun e w' => e = .returned (.agg #[.int .u8 m.sk, .int .u32 m.sv]) ∧ Left w b G m w' := by
  have A := Lib.hid h
  have g0 : Below w.heap.size w (w.alloc (.cells #[.int .u8 0, .int .u32 0] 37)) := bel_alK (Below.refl _ _)
  have HS : Hid (∀ W, MachP W b fb mb g x cs os G m → Calls Tryz.prog 51 #[.pointer (some ⟨b, 0, none⟩)] W fun e w' => e = .returned (.agg #[.int .u8 m.sk, .int .u32 m.sv]) ∧ Below W.heap.size W w') := fun W hW => by
    have := stop_at hW
    
    exact this
  have hsk' : (m.sk != 0) = true := by simpa using hsk
  clear h hsk
  go_enter Tryz.func15, Tryz.ntmps15
  go_wp2_with fail
  refine (HS.out _ (A.out.bel g0)).mono ?_; rintro e w1 ⟨rfl, g1⟩
  have R1 : Hid (w1.heap[w.heap.size]? = some (.cells #[.int .u8 0, .int .u32 0] 37 (0, 0))) := bel_heap g1 (heap_alloc_last _ _)
  have b1 := Lib.hid (bel_trans g0 g1)
  have b2 : Hid (Below w.heap.size w (w1.alloc (.cells #[.int .u8 m.sk, .int .u32 m.sv] 37))) := bel_alK b1.out
  have R2 : Hid ((w1.alloc (.cells #[.int .u8 m.sk, .int .u32 m.sv] 37)).heap[w.heap.size]? = some (.cells #[.int .u8 0, .int .u32 0] 37 (0, 0))) := row_alloc R1.out
  have P2 := Lib.hid (A.out.bel b2.out)
  have y0 := row_cell R2.out (j := 0) rfl
  have y1 := row_cell R2.out (j := 1) rfl
  have z0 := row_frozen R2.out (j := 0)
  have z1 := row_frozen R2.out (j := 1)
  have RE := Lib.hid (put2_row (y0 := .int .u8 m.sk) (y1 := .int .u32 m.sv) R2.out)
  have LE := Lib.hid (step_end (z := w.heap.size) (y0 := .int .u8 m.sk) (y1 := .int .u32 m.sv) A.out b2.out (Nat.le_refl _) (M5.heap_lt R2.out) ⟨G, P2.out.b, Turns.refl _ _, fun i hi => .inl hi⟩)
  go_wp2_with fail
  have c0 := row_cell RE.out (j := 0) rfl
  have c1 := row_cell RE.out (j := 1) rfl
  refine bodyPost_ret (v := .agg #[.int .u8 m.sk, .int .u32 m.sv]) ?_ rfl ⟨rfl, LE.out⟩
  simp [results, Tryz.results15, go_sem, c0, c1]
theorem step_high (lv : Int) (m' : MS) (h : MachP w b fb mb g x cs os G m) (hsk : m.sk = 0) (h0 : 0 ≤ lv) (h1 : lv < 256) (hlv : 15 < lv)
    (hx : ∀ W, MachP W b fb mb g x cs os G m → Calls Tryz.prog 85 #[.pointer (some ⟨b, 0, none⟩)] W fun e w' => e = .returned (.tuple #[]) ∧ Left W b G m' w') :
    Calls Tryz.prog 15 #[.pointer (some ⟨b, 0, none⟩), .int .u8 lv] w fun e w' => e = .returned (.agg #[.int .u8 m'.sk, .int .u32 m'.sv]) ∧ Left w b G m' w' := by
  have A := Lib.hid h
  have g0 : Below w.heap.size w (w.alloc (.cells #[.int .u8 0, .int .u32 0] 37)) := bel_alK (Below.refl _ _)
  have HS : Hid (∀ W, MachP W b fb mb g x cs os G m → Calls Tryz.prog 51 #[.pointer (some ⟨b, 0, none⟩)] W fun e w' => e = .returned (.agg #[.int .u8 0, .int .u32 m.sv]) ∧ Below W.heap.size W w') := fun W hW => by
    have := stop_at hW
    rw [hsk] at this
    exact this
  have hl : ¬ lv ≤ 15 := by omega
  clear hlv
  have HX := Lib.hid hx
  obtain ⟨_, _, ⟨p0, p1⟩, _⟩ := h.byte
  clear h hsk hx
  go_enter Tryz.func15, Tryz.ntmps15
  go_wp2_with fail
  refine (HS.out _ (A.out.bel g0)).mono ?_; rintro e w1 ⟨rfl, g1⟩
  have R1 : Hid (w1.heap[w.heap.size]? = some (.cells #[.int .u8 0, .int .u32 0] 37 (0, 0))) := bel_heap g1 (heap_alloc_last _ _)
  have b1 := Lib.hid (bel_trans g0 g1)
  have b2 : Hid (Below w.heap.size w (w1.alloc (.cells #[.int .u8 0, .int .u32 m.sv] 37))) := bel_alK b1.out
  have R2 : Hid ((w1.alloc (.cells #[.int .u8 0, .int .u32 m.sv] 37)).heap[w.heap.size]? = some (.cells #[.int .u8 0, .int .u32 0] 37 (0, 0))) := row_alloc R1.out
  have P2 := Lib.hid (A.out.bel b2.out)
  have k4 := P2.out.cells.2.2.2.2.1
  go_wp2_with fail
  refine (HX.out _ P2.out).mono ?_; rintro e w3 ⟨rfl, L3⟩
  have LE := Lib.hid (step_end (z := w.heap.size) (y0 := .int .u8 m'.sk) (y1 := .int .u32 m'.sv) A.out b2.out (Nat.le_refl _) (M5.heap_lt R2.out) L3)
  obtain ⟨G3, ⟨fb3, mb3, g3, x3, cs3, os3, P3⟩, T3, n3⟩ := L3
  have k44 := P3.cells.2.2.2.2.2.2.2.2.2.2.1
  have k45 := P3.cells.2.2.2.2.2.2.2.2.2.2.2
  have R3 := Lib.hid (T3.heap (fun e => Nat.lt_irrefl _ (A.out.lt _ e)) R2.out)
  have y0 := row_cell R3.out (j := 0) rfl
  have y1 := row_cell R3.out (j := 1) rfl
  have z0 := row_frozen R3.out (j := 0)
  have z1 := row_frozen R3.out (j := 1)
  have RE := Lib.hid (put2_row (y0 := .int .u8 m'.sk) (y1 := .int .u32 m'.sv) R3.out)
  clear P3 T3 n3
  go_wp2_with fail
  have c0 := row_cell RE.out (j := 0) rfl
  have c1 := row_cell RE.out (j := 1) rfl
  refine bodyPost_ret (v := .agg #[.int .u8 m'.sk, .int .u32 m'.sv]) ?_ rfl ⟨rfl, LE.out⟩
  simp [results, Tryz.results15, go_sem, c0, c1]
theorem step_low (lv : Int) (m' : MS) (h : MachP w b fb mb g x cs os G m) (hsk : m.sk = 0) (h0 : 0 ≤ lv) (h1 : lv < 256) (hlv : lv ≤ 15) (hp : lv ≤ m.pil)
    (hx : ∀ W, MachP W b fb mb g x cs os G m → Calls Tryz.prog 85 #[.pointer (some ⟨b, 0, none⟩)] W fun e w' => e = .returned (.tuple #[]) ∧ Left W b G m' w') :
    Calls Tryz.prog 15 #[.pointer (some ⟨b, 0, none⟩), .int .u8 lv] w fun e w' => e = .returned (.agg #[.int .u8 m'.sk, .int .u32 m'.sv]) ∧ Left w b G m' w' := by
  have A := Lib.hid h
  have g0 : Below w.heap.size w (w.alloc (.cells #[.int .u8 0, .int .u32 0] 37)) := bel_alK (Below.refl _ _)
  have HS : Hid (∀ W, MachP W b fb mb g x cs os G m → Calls Tryz.prog 51 #[.pointer (some ⟨b, 0, none⟩)] W fun e w' => e = .returned (.agg #[.int .u8 0, .int .u32 m.sv]) ∧ Below W.heap.size W w') := fun W hW => by
    have := stop_at hW
    rw [hsk] at this
    exact this
  have hl : ¬ m.pil < lv := by omega
  clear hp
  have HX := Lib.hid hx
  obtain ⟨_, _, ⟨p0, p1⟩, _⟩ := h.byte
  clear h hsk hx
  go_enter Tryz.func15, Tryz.ntmps15
  go_wp2_with fail
  refine (HS.out _ (A.out.bel g0)).mono ?_; rintro e w1 ⟨rfl, g1⟩
  have R1 : Hid (w1.heap[w.heap.size]? = some (.cells #[.int .u8 0, .int .u32 0] 37 (0, 0))) := bel_heap g1 (heap_alloc_last _ _)
  have b1 := Lib.hid (bel_trans g0 g1)
  have b2 : Hid (Below w.heap.size w (w1.alloc (.cells #[.int .u8 0, .int .u32 m.sv] 37))) := bel_alK b1.out
  have R2 : Hid ((w1.alloc (.cells #[.int .u8 0, .int .u32 m.sv] 37)).heap[w.heap.size]? = some (.cells #[.int .u8 0, .int .u32 0] 37 (0, 0))) := row_alloc R1.out
  have P2 := Lib.hid (A.out.bel b2.out)
  have k4 := P2.out.cells.2.2.2.2.1
  go_wp2_with fail
  refine (HX.out _ P2.out).mono ?_; rintro e w3 ⟨rfl, L3⟩
  have LE := Lib.hid (step_end (z := w.heap.size) (y0 := .int .u8 m'.sk) (y1 := .int .u32 m'.sv) A.out b2.out (Nat.le_refl _) (M5.heap_lt R2.out) L3)
  obtain ⟨G3, ⟨fb3, mb3, g3, x3, cs3, os3, P3⟩, T3, n3⟩ := L3
  have k44 := P3.cells.2.2.2.2.2.2.2.2.2.2.1
  have k45 := P3.cells.2.2.2.2.2.2.2.2.2.2.2
  have R3 := Lib.hid (T3.heap (fun e => Nat.lt_irrefl _ (A.out.lt _ e)) R2.out)
  have y0 := row_cell R3.out (j := 0) rfl
  have y1 := row_cell R3.out (j := 1) rfl
  have z0 := row_frozen R3.out (j := 0)
  have z1 := row_frozen R3.out (j := 1)
  have RE := Lib.hid (put2_row (y0 := .int .u8 m'.sk) (y1 := .int .u32 m'.sv) R3.out)
  clear P3 T3 n3
  go_wp2_with fail
  have c0 := row_cell RE.out (j := 0) rfl
  have c1 := row_cell RE.out (j := 1) rfl
  refine bodyPost_ret (v := .agg #[.int .u8 m'.sk, .int .u32 m'.sv]) ?_ rfl ⟨rfl, LE.out⟩
  simp [results, Tryz.results15, go_sem, c0, c1]
theorem step_irq (lv : Int) (m' : MS) (h : MachP w b fb mb g x cs os G m) (hsk : m.sk = 0) (h0 : 0 ≤ lv) (h1 : lv < 256) (hlv : lv ≤ 15) (hp : m.pil < lv)
    (hx : ∀ W, MachP W b fb mb g x cs os G m → Calls Tryz.prog 84 #[.pointer (some ⟨b, 0, none⟩), .int .u8 lv] W fun e w' => e = .returned (.tuple #[]) ∧ Left W b G m' w') :
    Calls Tryz.prog 15 #[.pointer (some ⟨b, 0, none⟩), .int .u8 lv] w fun e w' => e = .returned (.agg #[.int .u8 m'.sk, .int .u32 m'.sv]) ∧ Left w b G m' w' := by
  have A := Lib.hid h
  have g0 : Below w.heap.size w (w.alloc (.cells #[.int .u8 0, .int .u32 0] 37)) := bel_alK (Below.refl _ _)
  have HS : Hid (∀ W, MachP W b fb mb g x cs os G m → Calls Tryz.prog 51 #[.pointer (some ⟨b, 0, none⟩)] W fun e w' => e = .returned (.agg #[.int .u8 0, .int .u32 m.sv]) ∧ Below W.heap.size W w') := fun W hW => by
    have := stop_at hW
    rw [hsk] at this
    exact this
  have HX := Lib.hid hx
  obtain ⟨_, _, ⟨p0, p1⟩, _⟩ := h.byte
  clear h hsk hx
  go_enter Tryz.func15, Tryz.ntmps15
  go_wp2_with fail
  refine (HS.out _ (A.out.bel g0)).mono ?_; rintro e w1 ⟨rfl, g1⟩
  have R1 : Hid (w1.heap[w.heap.size]? = some (.cells #[.int .u8 0, .int .u32 0] 37 (0, 0))) := bel_heap g1 (heap_alloc_last _ _)
  have b1 := Lib.hid (bel_trans g0 g1)
  have b2 : Hid (Below w.heap.size w (w1.alloc (.cells #[.int .u8 0, .int .u32 m.sv] 37))) := bel_alK b1.out
  have R2 : Hid ((w1.alloc (.cells #[.int .u8 0, .int .u32 m.sv] 37)).heap[w.heap.size]? = some (.cells #[.int .u8 0, .int .u32 0] 37 (0, 0))) := row_alloc R1.out
  have P2 := Lib.hid (A.out.bel b2.out)
  have k4 := P2.out.cells.2.2.2.2.1
  go_wp2_with fail
  refine (HX.out _ P2.out).mono ?_; rintro e w3 ⟨rfl, L3⟩
  have LE := Lib.hid (step_end (z := w.heap.size) (y0 := .int .u8 m'.sk) (y1 := .int .u32 m'.sv) A.out b2.out (Nat.le_refl _) (M5.heap_lt R2.out) L3)
  obtain ⟨G3, ⟨fb3, mb3, g3, x3, cs3, os3, P3⟩, T3, n3⟩ := L3
  have k44 := P3.cells.2.2.2.2.2.2.2.2.2.2.1
  have k45 := P3.cells.2.2.2.2.2.2.2.2.2.2.2
  have R3 := Lib.hid (T3.heap (fun e => Nat.lt_irrefl _ (A.out.lt _ e)) R2.out)
  have y0 := row_cell R3.out (j := 0) rfl
  have y1 := row_cell R3.out (j := 1) rfl
  have z0 := row_frozen R3.out (j := 0)
  have z1 := row_frozen R3.out (j := 1)
  have RE := Lib.hid (put2_row (y0 := .int .u8 m'.sk) (y1 := .int .u32 m'.sv) R3.out)
  clear P3 T3 n3
  go_wp2_with fail
  have c0 := row_cell RE.out (j := 0) rfl
  have c1 := row_cell RE.out (j := 1) rfl
  refine bodyPost_ret (v := .agg #[.int .u8 m'.sk, .int .u32 m'.sv]) ?_ rfl ⟨rfl, LE.out⟩
  simp [results, Tryz.results15, go_sem, c0, c1]
end
end Go.Proofs.YtiobgnelhiadbaaGreatDoor.K6
namespace Go.Proofs.YtiobgnelhiadbaaGreatDoor.K6
open Go.RowKit
set_option linter.unusedVariables false
section
variable {w : World} {b fb mb g x : Nat} {cs os : Value} {G : Nat → Prop} {m : MS}
theorem PC_get (h : MachP w b fb mb g x cs os G m) : Calls Tryz.prog 55 #[.pointer (some ⟨b, 0, none⟩)] w fun e w' => e = .returned (.int .u32 m.pc) ∧ w = w' := by
  obtain ⟨k0, k1, k2, k3, k4, k5, k6, k7, _⟩ := h.cells
  clear h
  go_enter Tryz.func55, Tryz.ntmps55
  go_wp2_with fail
  refine (isObject_yes b _ _ k0).mono ?_; rintro e w1 ⟨rfl, rfl⟩
  go_wp2_with fail
  go_ret
  exact ⟨rfl, rfl⟩
theorem Wim_get (h : MachP w b fb mb g x cs os G m) : Calls Tryz.prog 32 #[.pointer (some ⟨b, 0, none⟩)] w fun e w' => e = .returned (.int .u32 m.wim) ∧ w = w' := by
  obtain ⟨k0, k1, k2, k3, k4, k5, k6, k7, _⟩ := h.cells
  clear h
  go_enter Tryz.func32, Tryz.ntmps32
  go_wp2_with fail
  refine (isObject_yes b _ _ k0).mono ?_; rintro e w1 ⟨rfl, rfl⟩
  go_wp2_with fail
  go_ret
  exact ⟨rfl, rfl⟩
theorem File_get (h : MachP w b fb mb g x cs os G m) : Calls Tryz.prog 25 #[.pointer (some ⟨b, 0, none⟩)] w fun e w' => e = .returned (.pointer (some ⟨fb, 0, none⟩)) ∧ w = w' := by
  obtain ⟨k0, k1, k2, k3, k4, k5, k6, k7, _⟩ := h.cells
  clear h
  go_enter Tryz.func25, Tryz.ntmps25
  go_wp2_with fail
  refine (isObject_yes b _ _ k0).mono ?_; rintro e w1 ⟨rfl, rfl⟩
  go_wp2_with fail
  go_ret
  exact ⟨rfl, rfl⟩
theorem Mem_get (h : MachP w b fb mb g x cs os G m) : Calls Tryz.prog 34 #[.pointer (some ⟨b, 0, none⟩)] w fun e w' => e = .returned (.pointer (some ⟨mb, 0, none⟩)) ∧ w = w' := by
  obtain ⟨k0, k1, k2, k3, k4, k5, k6, k7, _⟩ := h.cells
  clear h
  go_enter Tryz.func34, Tryz.ntmps34
  go_wp2_with fail
  refine (isObject_yes b _ _ k0).mono ?_; rintro e w1 ⟨rfl, rfl⟩
  go_wp2_with fail
  go_ret
  exact ⟨rfl, rfl⟩
theorem Psr_get (h : MachP w b fb mb g x cs os G m) : Calls Tryz.prog 28 #[.pointer (some ⟨b, 0, none⟩)] w fun e w' => e = .returned (.agg #[.int .u8 m.cwp, .int .u8 m.pil, .int .u8 m.bank, .int .u8 m.fl]) ∧ Below w.heap.size w w' := by
  have g0 : Below w.heap.size w (w.alloc (.cells #[.int .u8 0, .int .u8 0, .int .u8 0, .int .u8 0] 24)) := bel_alK (Below.refl _ _)
  obtain ⟨k0, _, _, k3, k4, k5, k6, _⟩ := (h.bel g0).cells
  clear h
  go_enter Tryz.func28, Tryz.ntmps28
  go_wp2_with fail
  refine (isObject_yes b _ _ k0).mono ?_; rintro e w1 ⟨rfl, rfl⟩
  go_wp2_with fail
  refine bodyPost_ret (v := .agg #[.int .u8 m.cwp, .int .u8 m.pil, .int .u8 m.bank, .int .u8 m.fl]) ?_ rfl ⟨rfl, ?_⟩
  · simp [results, Tryz.results28, go_sem]
  · exact bel_alK (Below.refl _ _)
end
end Go.Proofs.YtiobgnelhiadbaaGreatDoor.K6
namespace Go.Proofs.YtiobgnelhiadbaaGreatDoor.M5
open Go.RowKit
set_option linter.unusedVariables false
set_option maxRecDepth 100000 in
/-- New that makes a memory: its box is new too. -/
theorem new_box (n : Nat) (w : World) (h : MaySize n) : Calls Tryz.prog 124 #[.int .i64 n] w fun e w' => ∃ mb g, e = .returned (.tuple #[.pointer (some ⟨mb, 0, none⟩), .int .i64 0]) ∧ w'.heap[mb]? = some (.cells #[.slice (some ⟨g, 0, none⟩) n n] 234 (0, 0)) ∧ RowAt w' g n (fun _ => 0) ∧ w.heap.size ≤ mb ∧ w.heap.size ≤ g ∧ Below w.heap.size w w' := by
  obtain ⟨h0, h1, h2⟩ := h
  have h3 : (Int.tmod (n : Int) 4 != 0) = false := by rw [Int.tmod_eq_emod_of_nonneg h0, h2]; rfl
  have hmk := run_make_row' (P := Tryz.prog) 29 5 (.int .u8 0) 1 Tryz.underlying29 byte_parts rfl .i64 .i64 n (by omega) (by omega) w
  rw [made_bytes] at hmk
  have hr : RowAt (w.alloc (.cells (brow (fun _ => 0) n) 5)) w.heap.size n (fun _ => 0) := heap_alloc_last _ _
  have G := born_bel w (.cells (brow (fun _ => 0) n) 5)
  have hmx : (n : Int) ≤ 4194304 := h1
  have hm4 : ((n : Int) % 4 != 0) = false := by simpa using h2
  generalize brow (fun _ => 0) n = B at *
  clear h2
  go_enter Tryz.func124, Tryz.ntmps124
  go_wp2_with fail
  have hs : (w.alloc (.cells B 5)).heap.size = w.heap.size + 1 := by simp
  have G2 := (born_bel (w.alloc (.cells B 5)) (.cells #[.slice (some ⟨w.heap.size, 0, none⟩) n n] 234))
  go_ret2
  exact ⟨w.heap.size + 1, w.heap.size, rfl, row_born hs, hr.bel G2, Nat.le_succ _, Nat.le_refl _, bel_trans G G2⟩
end Go.Proofs.YtiobgnelhiadbaaGreatDoor.M5
namespace Go.Proofs.YtiobgnelhiadbaaGreatDoor.K6
open Go.RowKit
set_option linter.unusedVariables false
section
variable {w : World} {b fb mb g x : Nat} {cs os : Value} {G : Nat → Prop} {m : MS}
/-- A new machine. -/
def mnew (n : Int) (sz : Nat) : MS := ⟨n, fun _ => 0, sz, fun _ => 0, 0, 0, 0, 0, 0, 2, fun _ => 0, fun _ => 0, 0, fun _ => 0, 0, fun _ => 0, 0, 0⟩
theorem PC_set (u : Int) (h : MachP w b fb mb g x cs os G m) (hu : W32 u) : Calls Tryz.prog 57 #[.pointer (some ⟨b, 0, none⟩), .int .u32 u] w fun e w' => e = .returned (.int .i64 0) ∧ MachP w' b fb mb g x cs os G (m.jmp u) ∧ w.grownBy w' (some b) := by
  obtain ⟨k0, _, k2, _⟩ := h.cells
  have f2 := h.frozen 2
  obtain ⟨P2, g2⟩ := h.put1 2 (.int .u32 u) (put_pc _ _ _ _ _ _) ⟨rfl, rfl, rfl, rfl, rfl, rfl, rfl, rfl⟩ (h.ok.jmp hu)
  have P2 := Lib.hid P2
  have g2 := Lib.hid g2
  clear h hu
  go_enter Tryz.func57, Tryz.ntmps57
  go_wp2_with fail
  refine (isObject_yes b _ _ k0).mono ?_; rintro e w1 ⟨rfl, rfl⟩
  go_wp2_with fail
  go_ret
  exact ⟨rfl, P2.out, g2.out⟩
theorem w32_0 : W32 0 := ⟨Int.le_refl _, by decide⟩
theorem mnew_ok {n : Int} {sz : Nat} (hn : 2 ≤ n) (hn' : n ≤ 32) (hs : sz ≤ 4194304) : MOk (mnew n sz) where
  n2 := hn
  n32 := hn'
  R := fun _ => w32_0
  sz := hs
  f := M5.bytes_zero
  pc := w32_0
  c0 := Int.le_refl _
  c1 := by show (0 : Int) < n; omega
  p0 := Int.le_refl _
  p1 := by show (0 : Int) ≤ 15; decide
  b0 := Int.le_refl _
  b1 := by show (0 : Int) ≤ 16; decide
  f0 := Int.le_refl _
  f1 := by show (0 : Int) ≤ 15; decide
  wim := ⟨1, by show (1 : Int) < n; omega, rfl⟩
  tpc := fun _ => w32_0
  tps := fun _ => w32_0
  ch := fun _ => w32_0
  out := fun _ => w32_0
  sk0 := Int.le_refl _
  sk1 := by show (0 : Int) ≤ 3; decide
  sv := w32_0
theorem mnew_row (n : Int) (sz : Nat) (fb mb : Nat) : mrow (mcell (.pointer (some ⟨fb, 0, none⟩)) (.pointer (some ⟨mb, 0, none⟩)) (.slice none 0 0) (.slice none 0 0) (mnew n sz)) = #[.pointer (some ⟨fb, 0, none⟩), .pointer (some ⟨mb, 0, none⟩), .int .u32 0, .int .u8 0, .int .u8 0, .int .u8 0, .int .u8 0, .int .u32 2, .int .u32 0, .int .u32 0, .int .u32 0, .int .u32 0, .int .u32 0, .int .u32 0, .int .u32 0, .int .u32 0, .int .u32 0, .int .u32 0, .int .u32 0, .int .u32 0, .int .u32 0, .int .u32 0, .int .u32 0, .int .u32 0, .int .u32 0, .int .u32 0, .int .u32 0, .int .u32 0, .int .u32 0, .int .u32 0, .int .u32 0, .int .u32 0, .int .u32 0, .int .u32 0, .int .u32 0, .int .u32 0, .int .u32 0, .int .u32 0, .int .u32 0, .int .u32 0, .int .u32 0, .int .u32 0, .slice none 0 0, .slice none 0 0, .int .u8 0, .int .u32 0] := by kernel_rfl
/-- A machine's parts, all new, make a machine. -/
theorem made_at {w1 w2 w3 : World} {n : Int} {sz fb mb g : Nat} (hn : 2 ≤ n) (hn' : n ≤ 32) (hs : sz ≤ 4194304) (hT : Tabs w) (g1 : Below w.heap.size w w1) (F1 : F3.FileAt w1 fb n (fun _ => 0)) (hf : w.heap.size ≤ fb) (g2 : Below w1.heap.size w1 w2) (B2 : w2.heap[mb]? = some (.cells #[.slice (some ⟨g, 0, none⟩) sz sz] 234 (0, 0))) (R2 : M5.RowAt w2 g sz (fun _ => 0)) (hmb : w1.heap.size ≤ mb) (hg : w1.heap.size ≤ g) (g3 : Below w2.heap.size w2 w3) :
    MachB (w3.alloc (.cells (mrow (mcell (.pointer (some ⟨fb, 0, none⟩)) (.pointer (some ⟨mb, 0, none⟩)) (.slice none 0 0) (.slice none 0 0) (mnew n sz))) 133)) w3.heap.size (fun i => i = w3.heap.size ∨ i = fb ∨ i = mb ∨ i = g) (mnew n sz) ∧ ∀ i, (i = w3.heap.size ∨ i = fb ∨ i = mb ∨ i = g) → w.heap.size ≤ i := by
  have k4 : Below w3.heap.size w3 (w3.alloc (.cells (mrow (mcell (.pointer (some ⟨fb, 0, none⟩)) (.pointer (some ⟨mb, 0, none⟩)) (.slice none 0 0) (.slice none 0 0) (mnew n sz))) 133)) := bel_alK (Below.refl _ _)
  have s1 := g1.size
  have s2 := g2.size
  have s3 := g3.size
  have hlow : ∀ i, (i = w3.heap.size ∨ i = fb ∨ i = mb ∨ i = g) → w.heap.size ≤ i := by
    rintro i (rfl | rfl | rfl | rfl) <;> omega
  have F4 := ((F1.bel g2).bel g3).bel k4
  refine ⟨⟨fb, mb, g, 0, .slice none 0 0, .slice none 0 0, {
    box := heap_alloc_last _ _
    file := F4
    mbox := bel_heap k4 (bel_heap g3 B2)
    row := (R2.bel g3).bel k4
    chs := ⟨none, 0, rfl, Nat.le_refl _, fun h => absurd h (Nat.lt_irrefl _)⟩
    outs := World.ownsRow_nil _ _ _ _
    gb := .inl rfl, gf := .inr (.inl rfl), gm := .inr (.inr (.inl rfl)), gg := .inr (.inr (.inr rfl))
    gx := fun h => absurd h (Nat.lt_irrefl _)
    go := fun j hj => by cases hj
    lt := ?_
    far := fun i hi ht => by have := hlow i hi; have := hT.lt ht; omega
    tab := (((hT.bel g1).bel g2).bel g3).bel k4
    ok := mnew_ok hn hn' hs }⟩, hlow⟩
  rintro i (rfl | rfl | rfl | rfl)
  · simp
  · exact F4.lt
  · exact M5.heap_lt (bel_heap k4 (bel_heap g3 B2))
  · exact M5.heap_lt ((R2.bel g3).bel k4)
theorem wim_one (n : Int) (W : World) (hn : 2 ≤ n) (hn' : n ≤ 32) : Calls Tryz.prog 113 #[.int .i64 1, .int .i64 n] W fun e w' => e = .returned (.tuple #[.int .u32 2, .int .i64 0]) ∧ Below W.heap.size W w' := P4.Wim_yes 1 n W hn hn' (by omega)
set_option maxRecDepth 100000 in
theorem New_at (n : Int) (sz : Nat) (w : World) (hn : 2 ≤ n) (hn' : n ≤ 32) (hs : M5.MaySize sz) (hT : Tabs w) :
    Calls Tryz.prog 58 #[.int .i64 n, .int .i64 sz] w fun e w' => ∃ b G, e = .returned (.tuple #[.pointer (some ⟨b, 0, none⟩), .int .i64 0]) ∧ MachB w' b G (mnew n sz) ∧ Below w.heap.size w w' ∧ ∀ i, G i → w.heap.size ≤ i := by
  have HW : Hid (∀ W, Calls Tryz.prog 113 #[.int .i64 1, .int .i64 n] W fun e w' => e = .returned (.tuple #[.int .u32 2, .int .i64 0]) ∧ Below W.heap.size W w') := fun W => wim_one n W hn hn'
  have HM := Lib.hid hs
  have HT := Lib.hid hT
  have hs4 : Hid (sz ≤ 4194304) := by have := hs.2.1; unfold Hid; omega
  clear hs hT
  go_enter Tryz.func58, Tryz.ntmps58
  go_wp2_with fail
  refine (F3.new_at n w hn hn').mono ?_; rintro e w1 ⟨rfl, g1, F1⟩
  have F1 := Lib.hid F1
  have g1 := Lib.hid g1
  go_wp2_with fail
  refine (M5.new_box sz w1 HM.out).mono ?_; rintro e w2 ⟨mb, g, rfl, B2, R2, hmb, hg, g2⟩
  have D2 := Lib.hid (And.intro B2 (And.intro R2 (And.intro hmb (And.intro hg g2))))
  clear B2 R2 hmb hg g2
  go_wp2_with fail
  refine (HW.out w2).mono ?_; rintro e w3 ⟨rfl, g3⟩
  have g3 := Lib.hid g3
  obtain ⟨B2, R2, hmb, hg, g2⟩ := D2.out
  have E := made_at hn hn' hs4.out HT.out g1.out F1.out (Nat.le_refl _) g2 B2 R2 hmb hg g3.out
  rw [mnew_row] at E
  have k4 := Lib.hid (bel_alK (o := .cells #[.pointer (some ⟨w.heap.size, 0, none⟩), .pointer (some ⟨mb, 0, none⟩), .int .u32 0, .int .u8 0, .int .u8 0, .int .u8 0, .int .u8 0, .int .u32 2, .int .u32 0, .int .u32 0, .int .u32 0, .int .u32 0, .int .u32 0, .int .u32 0, .int .u32 0, .int .u32 0, .int .u32 0, .int .u32 0, .int .u32 0, .int .u32 0, .int .u32 0, .int .u32 0, .int .u32 0, .int .u32 0, .int .u32 0, .int .u32 0, .int .u32 0, .int .u32 0, .int .u32 0, .int .u32 0, .int .u32 0, .int .u32 0, .int .u32 0, .int .u32 0, .int .u32 0, .int .u32 0, .int .u32 0, .int .u32 0, .int .u32 0, .int .u32 0, .int .u32 0, .int .u32 0, .slice none 0 0, .slice none 0 0, .int .u8 0, .int .u32 0] 133) (bel_trans (bel_trans g1.out g2) g3.out))
  have E := Lib.hid E
  clear B2 R2 hmb hg g2 D2
  go_wp2_with fail
  go_ret2
  exact ⟨_, _, rfl, E.out.1, k4.out, E.out.2⟩
end
end Go.Proofs.YtiobgnelhiadbaaGreatDoor.K6
