/- SwapTurns (layer 10): what the machine comes to is what the document says. SwapTurns (layer 10): the document's halves, at a case. -/
import Derived.Test.YtiobgnelhiadbaaGreatDoorVSwapGF
import Derived.Test.YtiobgnelhiadbaaGreatDoorVWindGU
import Derived.Test.YtiobgnelhiadbaaGreatDoorVSwapGN2
import Derived.Test.YtiobgnelhiadbaaGreatDoorVSwapGU
import Derived.Test.YtiobgnelhiadbaaGreatDoorVSwapGT
import Derived.Test.YtiobgnelhiadbaaGreatDoorVSwapGJ
namespace Go.Proofs.YtiobgnelhiadbaaGreatDoor.S10
open Go.RowKit W8 K6
open F3 (LAt LAtB place atL Ent)
set_option linter.unusedVariables false
theorem dist_mod {n c iv : Int} (n2 : 2 ≤ n) (c0 : 0 ≤ c) (c1 : c < n) (i0 : 0 ≤ iv) (i1 : iv < n) : P4.dist c iv n = (iv - c) % n := by
  unfold P4.dist
  split
  · rw [Int.emod_eq_of_lt (by omega) (by omega)]
  · rw [← Int.add_emod_right, Int.emod_eq_of_lt (by omega) (by omega)]
section
variable {s : TC} (H : s.May) (B : TCB s)
include H B
theorem z_turn (hl : 0 < cntA s.la s.th.toNat) : ∃ (N T i : Nat) (e : MS) (k : Nat), s.th = N ∧ N ≤ 4 ∧ s.ch % ((aL s.la N).length : Int) = i ∧ (aL s.la N)[i]? = some T ∧ T < N ∧
    Zn (mZ s) (P4.pw ((s.c + 1) % s.nw).toNat) (ldB s.fH (64 + 16 * T) 4) (nxF s.fH T) (nxR s.nw s.c s.fH s.R T) e ∧ Runs (ldB s.fH (64 + 16 * T) 4) k (mZ s) e ∧ (k : Int) ≤ 40 * s.nw + 140 := by
  have t1 := H.t1
  have t4 := H.t4
  have ch := B.ch
  have hN : s.th = (s.th.toNat : Int) := by omega
  have hlen := aL_len (la := s.la) s.th.toNat fun j _ => la_01 j
  have hpos : 0 < ((aL s.la s.th.toNat).length : Int) := by rw [hlen]; exact hl
  have r0 : 0 ≤ s.ch % ((aL s.la s.th.toNat).length : Int) := Int.emod_nonneg _ (by omega)
  have r1 : s.ch % ((aL s.la s.th.toNat).length : Int) < ((aL s.la s.th.toNat).length : Int) := Int.emod_lt_of_pos _ hpos
  obtain ⟨T, a1, a2, a3, a4⟩ := aL_at (la := s.la) s.th.toNat (fun j _ => la_01 j) (s.ch % ((aL s.la s.th.toNat).length : Int)).toNat (by omega)
  obtain ⟨e, k, z, r, hk⟩ := whole H B (T := T) (by omega) a3 (by rw [a4, ← hlen]; omega) hl
  obtain ⟨d1, _⟩ := d_is H B
  exact ⟨s.th.toNat, T, _, e, k, hN, by omega, by omega, a1, a2, z, r, by omega⟩
theorem z_pc {T : Nat} (hT : T < 4) : W32 (ldB s.fH (64 + 16 * T) 4) ∧ ∃ sp : Nat, ldB s.fH (68 + 16 * T) 4 = sp ∧ sp % 4 = 0 ∧ 2048 ≤ sp ∧ sp + 64 ≤ 8192 := by
  have hf := fH_sp H B hT
  unfold Fz at hf
  refine ⟨?_, (ldB s.fH (68 + 16 * T) 4).toNat, by omega, by omega, by omega, by omega⟩
  obtain ⟨r0, r4⟩ := ru_is H B
  by_cases e : T = s.ru.toNat
  · subst e
    unfold TC.fH
    split
    · rw [ld_far (by omega), mem_pc H r4]; unfold W32; omega
    · rw [ld_far (by omega), ld_st (⟨by decide, by decide⟩ : W32 1540)]; exact ⟨by decide, by decide⟩
  · rw [fH_far H B (by omega) (by omega), mem_pc H hT]; unfold W32; omega
theorem z_regs {T : Nat} {e : MS} {sp : Nat} (hsp : ldB s.fH (68 + 16 * T) 4 = sp) (z : Zn (mZ s) (P4.pw ((s.c + 1) % s.nw).toNat) (ldB s.fH (64 + 16 * T) 4) (nxF s.fH T) (nxR s.nw s.c s.fH s.R T) e) {l l' : List Ent} (hS : F3.Step (wG s.R s.nw.toNat 0 0) l) (hS' : F3.Step (wG e.R s.nw.toNat 0 0) l') :
    (∀ (x : Int) (i : Nat), 0 ≤ x → x < s.nw → i < 16 → winL l' s.nw x i = winL ((l ++ [(place s.nw s.c 0 14, (sp : Int))]) ++ F3.entF (s.c.toNat * 16) (M5.wdB (nxF s.fH T) sp) 16) s.nw x i) ∧ (∀ k r : Nat, k < 16 → r < 8 → atL l' (place s.nw 0 k r) = atL ((l ++ [(place s.nw s.c 0 14, (sp : Int))]) ++ F3.entF (s.c.toNat * 16) (M5.wdB (nxF s.fH T) sp) 16) (place s.nw 0 k r)) := by
  have _ := B
  have n2 := H.n2
  have n32 := H.n32
  have c0 := H.c0
  have c1 := H.c1
  have hn : ((s.nw.toNat : Nat) : Int) = s.nw := by omega
  have S1 := F3.step_set hS (n := s.nw) (win := s.c) (bank := 0) (reg := 14) n32 ⟨c0, c1, by decide, by decide, by decide, by decide⟩ (sp : Int)
  have S2 := F3.step_putF S1 (x := s.c) c0 (by omega) (M5.wdB (nxF s.fH T) sp)
  refine step_same hS' S2 n2 n32 fun j hj => ?_
  have hloc : F3.loc s.nw s.c 0 14 < 16 * s.nw.toNat := by
    unfold F3.loc
    rw [if_neg (by decide), if_pos (by decide)]
    split <;> omega
  have hl16 : F3.loc s.nw s.c 16 14 = F3.loc s.nw s.c 0 14 := by
    unfold F3.loc
    simp only [show ¬ ((14 : Int) < 8) by decide, show (14 : Int) < 16 by decide, if_true, if_false]
  unfold F3.setR
  rw [if_neg (show ¬ ((14 : Int) = 0) by decide)]
  unfold F3.putF
  by_cases hw : s.c.toNat * 16 ≤ j ∧ j < s.c.toNat * 16 + 16
  · rw [if_pos hw]
    unfold wG
    rw [if_pos (by omega), z.R j (.inl (by omega))]
    unfold nxR ldR
    rw [if_pos (by omega), hsp]
    show ldB (nxF s.fH T) _ 4 = ldB (nxF s.fH T) _ 4
    congr 1
    omega
  · rw [if_neg hw]
    by_cases h16 : j < 16 * s.nw.toNat
    · have e1 : wG e.R s.nw.toNat 0 0 j = e.R j := by unfold wG; rw [if_pos h16]
      rw [e1, z.R j (.inl (by omega))]
      unfold nxR ldR
      rw [if_neg (by omega), hl16, hsp]
      unfold F3.upd
      split
      · rfl
      · unfold wG; rw [if_pos h16]
    · have e1 : ∀ R : Nat → Int, wG R s.nw.toNat 0 0 j = 0 := fun R => by unfold wG; rw [if_neg h16, if_neg (by omega)]
      rw [e1, F3.upd_ne _ _ (by omega), e1]
end
end Go.Proofs.YtiobgnelhiadbaaGreatDoor.S10
namespace Go.Proofs.YtiobgnelhiadbaaGreatDoor.S10
open Go.RowKit W8 K6
open F3 (LAt LAtB place atL Ent entF)
set_option linter.unusedVariables false
section
variable {R : Nat → Int} {n : Nat} {l : List Ent} (hS : F3.Step (wG R n 0 0) l) (n2 : 2 ≤ n) (n32 : n ≤ 32)
include hS n2 n32
theorem win_reg0 {x : Int} (h0 : 0 ≤ x) (h1 : x < n) {i : Nat} (hi : i < 16) : winL l n x i = R ((16 * x).toNat + i) := by
  unfold winL
  rw [F3.place_put h0 h1 (by omega) hi, ← hS _ (by omega)]
  unfold wG
  rw [if_pos (by omega)]
theorem sp_reg0 {x : Int} (h0 : 0 ≤ x) (h1 : x < n) : atL l (place n x 0 14) = R (F3.loc n x 0 14) := by
  have NM : F3.Named n x 0 14 := ⟨h0, h1, by decide, by decide, by decide, by decide⟩
  have hl : F3.loc n x 0 14 < 16 * n := by
    unfold F3.loc
    rw [if_neg (by decide), if_pos (by decide)]
    split <;> omega
  rw [← F3.cellOf_loc (by omega) NM, ← hS _ (by omega)]
  unfold wG
  rw [if_pos hl]
end
theorem loc_b {n x : Int} : F3.loc n x 16 14 = F3.loc n x 0 14 := by
  unfold F3.loc
  simp only [show ¬ ((14 : Int) < 8) by decide, show (14 : Int) < 16 by decide, if_true, if_false]
theorem world_z {w : World} {b fb mb g x : Nat} {cs os : Value} {G : Nat → Prop} {m : MS} (h : MachP w b fb mb g x cs os G m) {nw t cw : Int} (hn : m.nw = nw) (hs : m.sz = 8192) (t0 : 0 ≤ t) (t1 : t < nw) (hw : m.wim = P4.pw t.toNat) (hcw : m.cwp = cw) :
    Calls Tryz.prog 21 #[.pointer (some ⟨b, 0, none⟩), .int .i64 nw] w fun e w' => ∃ (p' : Option Addr) (m' k' : Nat) (pm : Option Addr) (mk : Nat) (l : List Ent), e = .returned (.agg (drow ⟨nw, .slice p' m' k', .slice pm 8192 mk, cw, t⟩)) ∧ LAtB w.heap.size w' (.slice p' m' k') l ∧ l.length ≤ 640 ∧ F3.Step (wG m.R nw.toNat 0 0) l ∧ MB w.heap.size w' (.slice pm 8192 mk) 8192 m.f ∧ Below w.heap.size w w' := by
  have h2 := h.ok.n2
  have en : ((nw.toNat : Nat) : Int) = nw := by omega
  have et : ((t.toNat : Nat) : Int) = t := by omega
  have := world8 h nw.toNat (by rw [en]; exact hn) 8192 hs rfl t.toNat (by omega) hw cw hcw
  rw [en, et] at this
  exact this
section
variable {s : TC} (H : s.May) (HB : TCB s)
include H HB
theorem e_at {B : Nat} {w : World} {vl vm : Value} {l : List Ent} (h : DO B w ⟨s.nw, vl, vm, s.c, s.iv⟩ l s.mem) (he : s.en = true) :
    Calls Tryz.prog 22 #[.agg (drow ⟨s.nw, vl, vm, s.c, s.iv⟩)] w fun e w' => ∃ vm', e = .returned (.agg (drow ⟨s.nw, vl, vm', s.c, s.iv⟩)) ∧ DO B w' ⟨s.nw, vl, vm', s.c, s.iv⟩ l s.fH ∧ Below w.heap.size w w' := by
  obtain ⟨r0, r4⟩ := ru_is H HB
  have e : s.fH = stB s.mem (76 + 16 * s.ru.toNat) 4 0 := by unfold TC.fH; rw [if_pos he]
  rw [e]
  exact end_at h s.ru.toNat r4 (by rw [mem_ru H, r0])
theorem y_at {B : Nat} {w : World} {vl vm : Value} {l : List Ent} (h : DO B w ⟨s.nw, vl, vm, s.c, s.iv⟩ l s.mem) (hl : l.length ≤ 700) (hS : F3.Step (wG s.R s.nw.toNat 0 0) l) (hR : ∀ j, W32 (s.R j)) (he : s.en = false) :
    Calls Tryz.prog 23 #[.agg (drow ⟨s.nw, vl, vm, s.c, s.iv⟩), .int .u32 1540] w fun e w' => ∃ vm', e = .returned (.tuple #[.agg (drow ⟨s.nw, vl, vm', s.c, s.iv⟩), .bool true]) ∧ DO B w' ⟨s.nw, vl, vm', s.c, s.iv⟩ l s.fH ∧ Below w.heap.size w w' := by
  obtain ⟨r0, r4⟩ := ru_is H HB
  obtain ⟨d1, d2, _, _⟩ := d_is H HB
  have n2 := H.n2
  have n32 := H.n32
  have c0 := H.c0
  have c1 := H.c1
  have i0 := H.i0
  have i1 := H.i1
  have en : ((s.nw.toNat : Nat) : Int) = s.nw := by omega
  have e : s.fH = stB (stB (stS s.R s.nw s.c s.mem s.d) (64 + 16 * s.ru.toNat) 4 1540) (68 + 16 * s.ru.toNat) 4 (s.R (F3.loc s.nw s.c 16 14)) := by unfold TC.fH; rw [if_neg (by rw [he]; decide)]
  have hw : ∀ j : Nat, 0 ≤ (s.c + j) % s.nw ∧ (s.c + j) % s.nw < s.nw := fun j => ⟨Int.emod_nonneg _ (by omega), Int.emod_lt_of_pos _ (by omega)⟩
  have hwin : ∀ (x : Int) (i : Nat), 0 ≤ x → x < s.nw → i < 16 → winL l s.nw x i = s.R ((16 * x).toNat + i) := fun x i h0 h1 hi => by
    have := win_reg0 (n := s.nw.toNat) hS (by omega) (by omega) h0 (by omega) hi
    rwa [en] at this
  have hsp : ∀ x : Int, 0 ≤ x → x < s.nw → atL l (place s.nw x 0 14) = s.R (F3.loc s.nw x 16 14) := fun x h0 h1 => by
    have := sp_reg0 (n := s.nw.toNat) hS (by omega) (by omega) h0 (by omega)
    rw [en] at this
    rw [this, loc_b]
  rw [e]
  refine yield_at h n2 n32 c0 c1 s.iv.toNat (by show s.iv = _; omega) (by show (_ : Int) < s.nw; omega) s.d ?_ d2 (by omega) (fun j => stS s.R s.nw s.c s.mem j) rfl (fun j => (s.R (F3.loc s.nw ((s.c + j) % s.nw) 16 14)).toNat) ?_ ?_ ?_ ?_ s.ru.toNat ?_ r4 1540 ⟨by decide, by decide⟩ _ ?_ (hR _) hl
  · rw [show ((s.iv.toNat : Nat) : Int) = s.iv by omega]
    show s.d = (P4.dist s.c s.iv s.nw).toNat
    rw [dist_mod n2 c0 c1 i0 i1]
    rfl
  · intro j hj
    exact ptB_cong 16 fun i hi => (hwin _ i (hw j).1 (hw j).2 hi).symm
  · intro j hj
    obtain ⟨f1, f2, f3⟩ := frames_ok H HB j
    refine ⟨?_, ?_⟩
    · rw [show P4.win s.c s.nw j = (s.c + j) % s.nw from rfl]
      show atL l (place s.nw _ 0 14) = _
      rw [hsp _ (hw j).1 (hw j).2]
      omega
    · unfold spE
      rw [if_neg (by omega), if_neg (by omega), if_neg (by omega)]
  · exact fun j hj => hw j
  · intro j hj i hi
    have e2 := hwin _ i (hw j).1 (hw j).2 hi
    have := hR ((16 * ((s.c + j) % s.nw)).toNat + i)
    show 0 ≤ winL l s.nw ((s.c + j) % s.nw) i ∧ winL l s.nw ((s.c + j) % s.nw) i < 4294967296
    rw [e2]
    exact this
  · rw [stS_far H HB _ (by omega), mem_ru H, r0]
  · exact hsp _ c0 c1
theorem n_at {B : Nat} {w : World} {vl vm : Value} {l : List Ent} (h : DO B w ⟨s.nw, vl, vm, s.c, s.iv⟩ l s.fH) {N T i sp : Nat} (hN : s.th = N) (hN4 : N ≤ 4) (hi : s.ch % ((aL s.la N).length : Int) = i) (hT : (aL s.la N)[i]? = some T) (hTN : T < N) (hsp : ldB s.fH (68 + 16 * T) 4 = sp) (h4 : sp % 4 = 0) (h8 : sp + 64 ≤ 8192) (hl : l.length ≤ 700) :
    Calls Tryz.prog 24 #[.agg (drow ⟨s.nw, vl, vm, s.c, s.iv⟩), .int .u32 s.ch] w fun e w' => ∃ vl' vm', e = .returned (.tuple #[.agg (drow ⟨s.nw, vl', vm', s.c, (s.c + 1) % s.nw⟩), .int .u32 (ldB s.fH (64 + 16 * T) 4), .bool true]) ∧ DO B w' ⟨s.nw, vl', vm', s.c, (s.c + 1) % s.nw⟩ ((l ++ [(place s.nw s.c 0 14, (sp : Int))]) ++ entF (s.c.toNat * 16) (M5.wdB (nxF s.fH T) sp) 16) (nxF s.fH T) ∧ Below w.heap.size w w' :=
  next_at h N T i hN4 (by rw [fH_th H HB, hN]) (fun t ht => fH_al H HB (by omega)) s.ch HB.ch hi hT (by omega) H.n2 H.n32 H.c0 H.c1 sp hsp h4 h8 hl
end
theorem DO.put {B z : Nat} {w w' : World} {q0 q : DV} {l : List Ent} {f : Nat → Int} (h : DO B w q l f) (hz : RowD w z q0) (g : w.grownBy w' (some z)) : DO B w' q l f :=
  ⟨own_typ_keep hz g h.L (by decide), own_typ_keep hz g h.M (by decide), h.bt, Nat.le_trans h.le g.size⟩
theorem keepL_heap {w w' : World} {b : Nat} {G G' : Nat → Prop} {m m' : MS} {B : Nat} (K : KeepL w w' [⟨b, G, m⟩] [⟨b, G', m'⟩]) (hG : ∀ i, G i → i < B) {j : Nat} (hj : B ≤ j) {o : Obj} (h : w.heap[j]? = some o) : w'.heap[j]? = some o := (K j o (spect_one h fun e => by have := hG j e; omega)).1
theorem keepL_own {w w' : World} {b : Nat} {G G' : Nat → Prop} {m m' : MS} {B : Nat} (K : KeepL w w' [⟨b, G, m⟩] [⟨b, G', m'⟩]) (hG : ∀ i, G i → i < B) {t : TypeId} {z n : Nat} {s : Value} {xs : List Value} (h : w.ownsRow B t z s n xs) : w'.ownsRow B t z s n xs := by
  obtain ⟨h0, h1 | ⟨g, cap, cur, e, hB, hg, r⟩⟩ := h
  · exact ⟨h0, .inl h1⟩
  · exact ⟨h0, .inr ⟨g, cap, cur, e, hB, keepL_heap K hG hB hg, r⟩⟩
/-- What the document wants. -/
structure ZT (W : World) (B z6 z9 : Nat) (q : DV) (l : List Ent) (f : Nat → Int) : Prop where
  X : RowD W z6 q
  L : LAtB B W q.vl l
  M : MB B W q.vm 8192 f
  z : B ≤ z6
  y : B ≤ z9
  Y : W.heap[z9]? = some (.cells #[.int .u32 0, .int .u32 0, .int .u32 0, .int .u32 0, .int .u32 0, .int .u32 0, .int .u32 0] 22 (0, 0))
theorem ZT.bel {W W' : World} {B z6 z9 : Nat} {q : DV} {l : List Ent} {f : Nat → Int} (h : ZT W B z6 z9 q l f) (k : Below W.heap.size W W') : ZT W' B z6 z9 q l f :=
  ⟨h.X.bel k, own_belw h.L k, own_belw h.M k, h.z, h.y, bel_heap k h.Y⟩
theorem ZT.keep {W W' : World} {b B z6 z9 : Nat} {G G' : Nat → Prop} {m m' : MS} {q : DV} {l : List Ent} {f : Nat → Int} (h : ZT W B z6 z9 q l f) (K : KeepL W W' [⟨b, G, m⟩] [⟨b, G', m'⟩]) (hG : ∀ i, G i → i < B) : ZT W' B z6 z9 q l f :=
  ⟨keepL_heap K hG h.z h.X, keepL_own K hG h.L, keepL_own K hG h.M, h.z, h.y, keepL_heap K hG h.y h.Y⟩
theorem wpList_load_rowG {P : Program} {ops : Array Oper} {rest : List Oper} {o : Oper} {a : Act} {w : World} {Q : Exit → Act → World → Prop} (hgd : Region.wanted o (yielded ops a.tmps) = true) (ty : TypeId) (x : Operand) (ho : o.op = .load ty x)
    (g : Nat) (hx : a.eval x = .pointer (some ⟨g, 0, none⟩)) (t : TypeId) (cs : Array Value) (fr : Nat × Nat) (d : TypeDesc) (hg : w.heap[g]? = some (.cells cs t fr))
    (hu : P.underlying ty = some d) (hd : (match d with | .struct _ | .array _ _ => true | _ => false) = true) (hi : (P.info? ty).map (·.size) = some cs.size)
    (h : wpList P ops Q rest (a.put o.dst (.agg cs)) w) : wpList P ops Q (o :: rest) a w :=
  wpList_step fun _ hK => by rw [if_pos hgd]; exact wp_load_row ty x ho g hx t cs fr d hg hu hd hi (hK _ _ h)
theorem setCell_id {w : World} {x j : Nat} {cs : Array Value} {t : TypeId} {fr : Nat × Nat} {v : Value} (h : w.heap[x]? = some (.cells cs t fr)) (hv : cs[j]? = some v) : w.setCell ⟨x, j, none⟩ v = w := by
  have e : cs.setIfInBounds j v = cs := by
    apply Array.ext_getElem?
    intro i
    rw [Array.getElem?_setIfInBounds]
    split
    · rename_i hi
      subst hi
      obtain ⟨hj, e⟩ := Array.getElem?_eq_some_iff.1 hv
      rw [if_pos hj, hv]
    · rfl
  have e2 : w.heap.modify x (fun o => match o with
      | .cells c elem frozen => .cells (if (none : Option Unit).isSome = true then c else c.setIfInBounds j v) elem frozen
      | o => o) = w.heap := by
    apply Array.ext_getElem?
    intro i
    rw [Array.getElem?_modify]
    split
    · rename_i hi
      subst hi
      rw [h]
      simp [e]
    · rfl
  show World.mk _ _ _ _ _ = w
  conv => rhs; rw [show w = World.mk w.heap w.tape w.drawn w.os w.output from rfl]
  congr 1
theorem made7 : madeCells #[.int .u32 0] 7 = #[.int .u32 0, .int .u32 0, .int .u32 0, .int .u32 0, .int .u32 0, .int .u32 0, .int .u32 0] := by first | rfl | kernel_rfl | decide | (simp [madeCells])
theorem nxR_hi {s : TC} {T : Nat} (H : s.May) {e : MS} {v pc : Int} (z : Zn (mZ s) v pc (nxF s.fH T) (nxR s.nw s.c s.fH s.R T) e) {j : Nat} (h1 : 512 ≤ j) (h2 : j < 641) : e.R j = 0 := by
  have n2 := H.n2
  have n32 := H.n32
  have c0 := H.c0
  have c1 := H.c1
  have hl : F3.loc s.nw s.c 16 14 < 512 := by
    rw [loc_b]
    unfold F3.loc
    rw [if_neg (by decide), if_pos (by decide)]
    split <;> omega
  rw [z.R j (.inl h2)]
  unfold nxR ldR
  rw [if_neg (by omega), F3.upd_ne _ _ (by omega)]
  exact R_hi H h1
theorem zeros_at {W : World} {z : Nat} (h : W.heap[z]? = some (.cells #[.int .u32 0, .int .u32 0, .int .u32 0, .int .u32 0, .int .u32 0, .int .u32 0, .int .u32 0] 22 (0, 0))) {j : Nat} (hj : j < 7) : W.cell? ⟨z, j, none⟩ = some (.int .u32 0) ∧ W.frozen? ⟨z, j, none⟩ = false ∧ W.setCell ⟨z, j, none⟩ (.int .u32 0) = W := by
  have e : (#[.int .u32 0, .int .u32 0, .int .u32 0, .int .u32 0, .int .u32 0, .int .u32 0, .int .u32 0] : Array Value)[j]? = some (.int .u32 0) := by
    rcases (by omega : j = 0 ∨ j = 1 ∨ j = 2 ∨ j = 3 ∨ j = 4 ∨ j = 5 ∨ j = 6) with rfl | rfl | rfl | rfl | rfl | rfl | rfl <;> rfl
  exact ⟨row_cell h e, row_frozen h, setCell_id h e⟩
end Go.Proofs.YtiobgnelhiadbaaGreatDoor.S10
