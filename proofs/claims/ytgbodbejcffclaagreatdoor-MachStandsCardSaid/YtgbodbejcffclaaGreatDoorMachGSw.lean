/- MachStands (layer 6), walked: what stands still, and two that begin the same. -/
import Derived.Test.YtgbodbejcffclaaGreatDoorMachGRw
import Derived.Test.YtgbodbejcffclaaGreatDoorMachGL
namespace Go.Proofs.YtgbodbejcffclaaGreatDoor.K6
open Go.RowKit
set_option linter.unusedVariables false
def sIs (k v : Int) : Obj := .cells #[.int .u8 k, .int .u32 v] 37 (0, 0)
/-- Two machines, and the boxes that have been laid beside them. -/
structure SX (a W : World) (b c : Nat) (m o : MS) (L : List (Nat × Obj)) : Prop where
  all : ∃ G G2, AllM a W [⟨b, G, m⟩, ⟨c, G2, o⟩] ∧ ∀ p ∈ L, Spect W [⟨b, G, m⟩, ⟨c, G2, o⟩] p.1 p.2
  ne : (L.map Prod.fst).Nodup
  lo : ∀ p ∈ L, a.heap.size ≤ p.1
section
variable {a W W' : World} {b c : Nat} {m o : MS} {L : List (Nat × Obj)}
theorem SX.bel (h : SX a W b c m o L) : Below a.heap.size a W := by obtain ⟨⟨G, G2, A, _⟩, _, _⟩ := h; exact A.bel
theorem SX.lt (h : SX a W b c m o L) : ∀ p ∈ L, p.1 < W.heap.size := by obtain ⟨⟨G, G2, A, hy⟩, _, _⟩ := h; exact fun p hp => M5.heap_lt (hy p hp).1
theorem SX.al (h : SX a W b c m o L) (k v : Int) : SX a (W.alloc (.cells #[.int .u8 k, .int .u32 v] 37)) b c m o ((W.heap.size, sIs k v) :: L) := by
  have hlt := h.lt
  obtain ⟨⟨G, G2, A, hy⟩, hn, hl⟩ := h
  refine ⟨⟨G, G2, A.more (bel_alK (Below.refl _ _)), fun p hp => ?_⟩, ?_, fun p hp => ?_⟩
  · rcases List.mem_cons.1 hp with rfl | hp
    · exact Spect.new A _
    · exact (hy p hp).more (bel_alK (Below.refl _ _))
  · rw [List.map_cons, List.nodup_cons]
    refine ⟨fun hm => ?_, hn⟩
    obtain ⟨p, hp, e⟩ := List.mem_map.1 hm
    have := hlt p hp
    simp only at e
    omega
  · rcases List.mem_cons.1 hp with rfl | hp
    · exact A.bel.size
    · exact hl p hp
theorem SX.drew (h : SX a W b c m o L) : SX a W.drew b c m o L := by
  obtain ⟨⟨G, G2, A, hy⟩, hn, hl⟩ := h
  exact ⟨⟨G, G2, A.more (Below.drew (Below.refl _ _)), fun p hp => (hy p hp).more (Below.drew (Below.refl _ _))⟩, hn, hl⟩
theorem SX.stepA (lv : Int) (h0 : 0 ≤ lv) (h1 : lv < 256) (hol : m.ol ≤ 1000000) (h : SX a W b c m o L) :
    Calls Tryz.prog 16 #[.pointer (some ⟨b, 0, none⟩), .int .u8 lv] W fun e W' => e = .returned (.agg #[.int .u8 (mstep m lv).sk, .int .u32 (mstep m lv).sv]) ∧ SX a W' b c (mstep m lv) o L := by
  obtain ⟨⟨G, G2, A, hy⟩, hn, hl⟩ := h
  exact (all_step lv A (j := 0) rfl h0 h1 hol (fun _ _ _ => trivial) rfl rfl).mono fun e W' ⟨h1, G', A', S⟩ => ⟨h1, ⟨G', G2, A', fun p hp => S _ _ (hy p hp)⟩, hn, hl⟩
theorem SX.stepB (lv : Int) (h0 : 0 ≤ lv) (h1 : lv < 256) (hol : o.ol ≤ 1000000) (h : SX a W b c m o L) :
    Calls Tryz.prog 16 #[.pointer (some ⟨c, 0, none⟩), .int .u8 lv] W fun e W' => e = .returned (.agg #[.int .u8 (mstep o lv).sk, .int .u32 (mstep o lv).sv]) ∧ SX a W' b c m (mstep o lv) L := by
  obtain ⟨⟨G, G2, A, hy⟩, hn, hl⟩ := h
  exact (all_step lv A (j := 1) rfl h0 h1 hol (fun _ _ _ => trivial) rfl rfl).mono fun e W' ⟨h1, G', A', S⟩ => ⟨h1, ⟨G, G', A', fun p hp => S _ _ (hy p hp)⟩, hn, hl⟩
theorem SX.more (h : SX a W b c m o L) (k : Below W.heap.size W W') : SX a W' b c m o L := by
  obtain ⟨⟨G, G2, A, hy⟩, hn, hl⟩ := h
  exact ⟨⟨G, G2, A.more k, fun p hp => (hy p hp).more k⟩, hn, hl⟩
theorem SX.stillA (lv : Int) (h0 : 0 ≤ lv) (h1 : lv < 256) (hol : m.ol ≤ 1000000) (hs : m.sk ≠ 0) (h : SX a W b c m o L) :
    Calls Tryz.prog 16 #[.pointer (some ⟨b, 0, none⟩), .int .u8 lv] W fun e W' => e = .returned (.agg #[.int .u8 m.sk, .int .u32 m.sv]) ∧ SX a W' b c m o L := by
  have := h.stepA lv h0 h1 hol
  rw [mstep_stopped hs] at this
  exact this
theorem SX.pcA (h : SX a W b c m o L) : Calls Tryz.prog 18 #[.pointer (some ⟨b, 0, none⟩)] W fun e W' => e = .returned (.int .u32 m.pc) ∧ W' = W := by
  obtain ⟨⟨G, G2, A, hy⟩, hn, hl⟩ := h
  obtain ⟨fb, mb, g, x, cs, os, P⟩ := A.at' 0 _ rfl
  exact (PC_get P).mono fun e W' ⟨h1, h2⟩ => ⟨h1, h2.symm⟩
theorem SX.pcB (h : SX a W b c m o L) : Calls Tryz.prog 18 #[.pointer (some ⟨c, 0, none⟩)] W fun e W' => e = .returned (.int .u32 o.pc) ∧ W' = W := by
  obtain ⟨⟨G, G2, A, hy⟩, hn, hl⟩ := h
  obtain ⟨fb, mb, g, x, cs, os, P⟩ := A.at' 1 _ rfl
  exact (PC_get P).mono fun e W' ⟨h1, h2⟩ => ⟨h1, h2.symm⟩
theorem SX.psrA (h : SX a W b c m o L) : Calls Tryz.prog 19 #[.pointer (some ⟨b, 0, none⟩)] W fun e W' => e = .returned (.agg #[.int .u8 m.cwp, .int .u8 m.pil, .int .u8 m.bank, .int .u8 m.fl]) ∧ SX a W' b c m o L := by
  have H := h
  obtain ⟨⟨G, G2, A, hy⟩, hn, hl⟩ := h
  obtain ⟨fb, mb, g, x, cs, os, P⟩ := A.at' 0 _ rfl
  exact (Psr_get P).mono fun e W' ⟨h1, h2⟩ => ⟨h1, H.more h2⟩
theorem SX.psrB (h : SX a W b c m o L) : Calls Tryz.prog 19 #[.pointer (some ⟨c, 0, none⟩)] W fun e W' => e = .returned (.agg #[.int .u8 o.cwp, .int .u8 o.pil, .int .u8 o.bank, .int .u8 o.fl]) ∧ SX a W' b c m o L := by
  have H := h
  obtain ⟨⟨G, G2, A, hy⟩, hn, hl⟩ := h
  obtain ⟨fb, mb, g, x, cs, os, P⟩ := A.at' 1 _ rfl
  exact (Psr_get P).mono fun e W' ⟨h1, h2⟩ => ⟨h1, H.more h2⟩
theorem SX.outA (hol : m.ol ≤ 1000000) (h : SX a W b c m o L) : Calls Tryz.prog 20 #[.pointer (some ⟨b, 0, none⟩)] W fun e W' => ∃ p q, e = .returned (.slice p m.ol q) ∧ Sl .u32 W' (.slice p m.ol q) m.ol m.out ∧ SX a W' b c m o L := by
  have H := h
  obtain ⟨⟨G, G2, A, hy⟩, hn, hl⟩ := h
  refine (all_out A (j := 0) rfl hol).mono ?_
  rintro e W' ⟨s, rfl, S, _, k⟩
  obtain ⟨p, q, rfl, hh⟩ := S
  exact ⟨p, q, rfl, ⟨p, q, rfl, hh⟩, H.more k⟩
theorem SX.box (h : SX a W b c m o L) (cs : Array Value) (t : TypeId) : SX a (W.alloc (.cells cs t)) b c m o ((W.heap.size, .cells cs t (0, 0)) :: L) := by
  have hlt := h.lt
  obtain ⟨⟨G, G2, A, hy⟩, hn, hl⟩ := h
  refine ⟨⟨G, G2, A.more (bel_alK (Below.refl _ _)), fun p hp => ?_⟩, ?_, fun p hp => ?_⟩
  · rcases List.mem_cons.1 hp with rfl | hp
    · exact Spect.new A _
    · exact (hy p hp).more (bel_alK (Below.refl _ _))
  · rw [List.map_cons, List.nodup_cons]
    refine ⟨fun hm => ?_, hn⟩
    obtain ⟨p, hp, e⟩ := List.mem_map.1 hm
    have := hlt p hp
    simp only at e
    omega
  · rcases List.mem_cons.1 hp with rfl | hp
    · exact A.bel.size
    · exact hl p hp
theorem SX.row (h : SX a W b c m o L) {p : Nat × Obj} (hp : p ∈ L) : W.heap[p.1]? = some p.2 := by
  obtain ⟨⟨G, G2, A, hy⟩, hn, hl⟩ := h
  exact (hy p hp).1
theorem SX.facts {y : Nat} {k v : Int} (h : SX a W b c m o L) (hy : (y, sIs k v) ∈ L) : W.cell? ⟨y, 0, none⟩ = some (.int .u8 k) ∧ W.cell? ⟨y, 1, none⟩ = some (.int .u32 v) ∧ W.frozen? ⟨y, 0, none⟩ = false ∧ W.frozen? ⟨y, 1, none⟩ = false ∧ y < W.heap.size ∧ a.heap.size ≤ y := by
  have hlt := h.lt _ hy
  obtain ⟨⟨G, G2, A, hs⟩, hn, hl⟩ := h
  have s := hs _ hy
  exact ⟨row_cell (j := 0) s.1 rfl, row_cell (j := 1) s.1 rfl, row_frozen (j := 0) s.1, row_frozen (j := 1) s.1, hlt, hl _ hy⟩
theorem SX.swap {p q : Nat × Obj} (h : SX a W b c m o [p, q]) : SX a W b c m o [q, p] := by
  obtain ⟨⟨G, G2, A, hs⟩, hn, hl⟩ := h
  exact ⟨⟨G, G2, A, fun x hx => hs x (by simp at hx ⊢; exact hx.symm)⟩, by simp at hn ⊢; exact fun e => hn e.symm, fun x hx => hl x (by simp at hx ⊢; exact hx.symm)⟩
end
theorem all_cell {a W : World} {L : List ME} (h : AllM a W L) {y : Nat} {ob : Obj} (hy : Spect W L y ob) (hT : ¬ isTab y) (ha : a.heap.size ≤ y) (i : Nat) (u : Value) : AllM a (W.setCell ⟨y, i, none⟩ u) L := by
  have T : Turns (fun x => x = y) W (W.setCell ⟨y, i, none⟩ u) := Turns.of_only (only_cell ⟨rfl, rfl, rfl, Nat.le_refl _, fun _ _ _ => rfl⟩ i u) rfl
  exact ⟨Turns.bel h.bel T (fun x e => e ▸ ha), h.tab.turns T (fun x e => e ▸ hT), fun j e hj => (h.at' j e hj).turns T (fun x hx e' => hy.2 j e hj (e' ▸ hx)) (fun x e' => e' ▸ hT), h.low, h.dis⟩
/-- A box is filled. -/
theorem SX.fill {a W : World} {b c : Nat} {m o : MS} {L : List (Nat × Obj)} {y : Nat} {k0 v0 k v : Int} (hT : Tabs a) (h : SX a W b c m o ((y, sIs k0 v0) :: L)) : SX a ((W.setCell ⟨y, 0, none⟩ (.int .u8 k)).setCell ⟨y, 1, none⟩ (.int .u32 v)) b c m o ((y, sIs k v) :: L) := by
  obtain ⟨⟨G, G2, A, hs⟩, hn, hl⟩ := h
  have hy := hs _ (List.mem_cons_self ..)
  have ha := hl _ (List.mem_cons_self ..)
  have nt : ¬ isTab y := fun e => by have := hT.lt e; simp only at ha; omega
  have h1 := all_cell A hy nt ha 0 (.int .u8 k)
  have r1 := heap_setCell_same W y 0 _ _ (.int .u8 k) hy.1
  have s1 : Spect (W.setCell ⟨y, 0, none⟩ (.int .u8 k)) [⟨b, G, m⟩, ⟨c, G2, o⟩] y (.cells #[.int .u8 k, .int .u32 v0] 37 (0, 0)) := ⟨r1, hy.2⟩
  have h2 := all_cell h1 s1 nt ha 1 (.int .u32 v)
  refine ⟨⟨G, G2, h2, fun p hp => ?_⟩, hn, fun p hp => ?_⟩
  · rcases List.mem_cons.1 hp with rfl | hp
    · exact ⟨heap_setCell_same _ y 1 _ _ (.int .u32 v) r1, hy.2⟩
    · have hne : y ≠ p.1 := fun e => by
        rw [List.map_cons, List.nodup_cons] at hn
        exact hn.1 (List.mem_map.2 ⟨p, hp, e.symm⟩)
      have hq := hs p (List.mem_cons_of_mem _ hp)
      refine ⟨?_, hq.2⟩
      rw [heap_setCell_other _ _ _ _ (fun e => hne e.symm), heap_setCell_other _ _ _ _ (fun e => hne e.symm)]
      exact hq.1
  · rcases List.mem_cons.1 hp with rfl | hp
    · exact ha
    · exact hl p (List.mem_cons_of_mem _ hp)
theorem SX.fill2 {a W : World} {b c : Nat} {m o : MS} {p : Nat × Obj} {y : Nat} {k v : Int} (hT : Tabs a) (h : SX a W b c m o [(y, sIs 0 0), p]) : SX a ((W.setCell ⟨y, 0, none⟩ (.int .u8 k)).setCell ⟨y, 1, none⟩ (.int .u32 v)) b c m o [p, (y, sIs k v)] := (h.fill hT).swap
theorem SX.al2 {a W : World} {b c : Nat} {m o : MS} {p : Nat × Obj} {k v : Int} (h : SX a W b c m o [p]) : SX a (W.alloc (.cells #[.int .u8 k, .int .u32 v] 37)) b c m o [p, (W.heap.size, sIs k v)] := (h.al k v).swap
theorem SX.alE {a W : World} {b c : Nat} {m o : MS} {L : List (Nat × Obj)} {y : Nat} {k v : Int} (e : y = W.heap.size) (h : SX a W b c m o L) : SX a (W.alloc (.cells #[.int .u8 k, .int .u32 v] 37)) b c m o ((y, sIs k v) :: L) := by subst e; exact h.al k v
theorem SX.al2E {a W : World} {b c : Nat} {m o : MS} {p : Nat × Obj} {y : Nat} {k v : Int} (e : y = W.heap.size) (h : SX a W b c m o [p]) : SX a (W.alloc (.cells #[.int .u8 k, .int .u32 v] 37)) b c m o [p, (y, sIs k v)] := by subst e; exact (h.al k v).swap
theorem alloc_size (W : World) (ob : Obj) : (W.alloc ob).heap.size = W.heap.size + 1 := by simp
theorem drew_size (W : World) : W.drew.heap.size = W.heap.size := rfl
theorem al_cell {W : World} {y i : Nat} {u : Value} (h : W.cell? ⟨y, i, none⟩ = some u) : ∀ ob, (W.alloc ob).cell? ⟨y, i, none⟩ = some u := fun ob => bel_cell ((Below.refl _ _).alloc (Nat.le_refl _) ob) h
theorem al_frozen {W : World} {y i : Nat} {u : Value} (h : W.cell? ⟨y, i, none⟩ = some u) (hf : W.frozen? ⟨y, i, none⟩ = false) : ∀ ob, (W.alloc ob).frozen? ⟨y, i, none⟩ = false := fun ob => bel_frozen ((Below.refl _ _).alloc (Nat.le_refl _) ob) h hf
theorem store_far {W : World} {lb i y o : Nat} {u x : Value} (h : W.cell? ⟨lb, i, none⟩ = some u) (hn : lb ≠ y) : (W.setCell ⟨y, o, none⟩ x).cell? ⟨lb, i, none⟩ = some u := by
  rw [World.cell?_setCell_other _ _ _ _ (fun e => hn (by cases e; rfl))]; exact h
theorem eq_stop (k v : Int) (W : World) : (Op.equalIn 10000 37 (.agg #[.int .u8 k, .int .u32 v]) (.agg #[.int .u8 k, .int .u32 v])).run Tryz.prog W = .ok true W := by simp [go_sem]
set_option maxRecDepth 100000 in
set_option maxHeartbeats 16000000 in
theorem stands_walk {w : World} (s : ST) {vw vr vc : Value} (v : Value) (N : Nat) (L : Nat → Nat) (hb : STB s) (hs : StAt w s vw vr vc) (hT : Tabs w) (hv : Sl .u8 w v N (fun i => (L i : Int))) (hL : ∀ i, L i < 256) :
    Calls Tryz.prog 4 #[.agg (srow s vw vr vc), v] w fun e w' => e = .returned (.bool true) ∧ Below w.heap.size w w' := by
  obtain ⟨pv, cv, rfl, hcv⟩ := id hv
  obtain ⟨pw, cw, rfl, _⟩ := id hs.sw
  obtain ⟨pr, cr, rfl, _⟩ := id hs.sr
  obtain ⟨pc, cc, rfl⟩ : ∃ p c, vc = .slice p s.lc c := by
    rcases hs.sc with ⟨rfl, h0⟩ | ⟨a, c, rfl, _⟩
    · exact ⟨none, 0, by rw [h0]⟩
    · exact ⟨_, _, rfl⟩
  have hX : Hid ((w.alloc (.cells (srow s (.slice pw s.lw cw) (.slice pr s.lr cr) (.slice pc s.lc cc)) 28)).heap[w.heap.size]? = some (.cells (srow s (.slice pw s.lw cw) (.slice pr s.lr cr) (.slice pc s.lc cc)) 28 (0, 0))) := heap_alloc_last _ _
  have gX : Hid (Below w.heap.size w (w.alloc (.cells (srow s (.slice pw s.lw cw) (.slice pr s.lr cr) (.slice pc s.lc cc)) 28))) := bel_alK (Below.refl _ _)
  have HB := Lib.hid hb
  have HS := Lib.hid (hs.bel gX.out)
  have HT := Lib.hid (hT.bel gX.out)
  have HC : Hid (0 < N → ∃ b o, pv = some ⟨b, o, none⟩ ∧ ∀ (W : World), Below w.heap.size w W → ∀ i, i < N → W.cell? ⟨b, o + i, none⟩ = some (.int .u8 (L i))) := fun hn => by
    obtain ⟨b, o, e, hc⟩ := hcv hn
    exact ⟨b, o, e, fun W k i hi => bel_cell k (hc i hi)⟩
  have HL := Lib.hid hL
  have heq := eq_psrR
  have heq2 := eq_stop
  clear hb hs hT hv hcv hL
  go_enter Tryz.func4, Tryz.ntmps4
  go_upto_region 1 with (fail)
  change Code.wp _ _ _ _ (w.alloc (.cells (srow s (.slice pw s.lw cw) (.slice pr s.lr cr) (.slice pc s.lc cc)) 28))
  generalize w.alloc (.cells (srow s (.slice pw s.lw cw) (.slice pr s.lr cr) (.slice pc s.lc cc)) 28) = V at hX gX HS HT ⊢
  have rx : ∀ W : World, Below V.heap.size V W → W.cell? ⟨w.heap.size, 0, none⟩ = some (.int .i64 s.n) ∧ W.cell? ⟨w.heap.size, 1, none⟩ = some (.int .i64 s.sz) ∧ W.cell? ⟨w.heap.size, 2, none⟩ = some (.int .u32 s.pc) ∧ W.cell? ⟨w.heap.size, 3, none⟩ = some (.int .u8 s.c) ∧ W.cell? ⟨w.heap.size, 4, none⟩ = some (.int .u8 s.p) ∧ W.cell? ⟨w.heap.size, 5, none⟩ = some (.int .u8 s.k) ∧ W.cell? ⟨w.heap.size, 6, none⟩ = some (.int .u8 s.f) ∧ W.cell? ⟨w.heap.size, 7, none⟩ = some (.int .u32 s.wim) ∧ W.cell? ⟨w.heap.size, 8, none⟩ = some (.slice pw s.lw cw) ∧ W.cell? ⟨w.heap.size, 9, none⟩ = some (.slice pr s.lr cr) ∧ W.cell? ⟨w.heap.size, 10, none⟩ = some (.slice pc s.lc cc) := fun W k => by
    have h := bel_heap k hX.out
    exact ⟨row_cell h rfl, row_cell h rfl, row_cell h rfl, row_cell h rfl, row_cell h rfl, row_cell h rfl, row_cell h rfl, row_cell h rfl, row_cell h rfl, row_cell h rfl, row_cell h rfl⟩
  have RX := Lib.hid rx
  clear rx
  obtain ⟨x0, x1, x2, x3, x4, x5, x6, x7, x8, x9, x10⟩ := RX.out V (Below.refl _ _)
  go_wp2_with fail
  refine (great6_at s HS.out).mono ?_; rintro e w1 ⟨rfl, g1⟩
  have G1 := Lib.hid g1
  clear g1 x0 x1 x2 x3 x4 x5 x6 x7 x8 x9 x10
  have HEAD : Hid (∀ W : World, Below V.heap.size V W → Calls Tryz.prog 11 #[] W fun e w' => e = .returned (.bool true) ∧ Below w.heap.size w w') := fun W k => (head_at W (HT.out.bel k)).mono fun e w' ⟨h1, h2⟩ => ⟨h1, bel_trans gX.out (bel_trans k h2)⟩
  cases hgr : great6 s
  · have hb9 := of_decide_eq_false hgr
    obtain ⟨x0, x1, x2, x3, x4, x5, x6, x7, x8, x9, x10⟩ := RX.out w1 G1.out
    by_cases hm : s.may
    · go_wp2_with fail
      refine (made_yes s HB.out (HS.out.bel G1.out) hm (HT.out.bel G1.out) (by omega) (by omega) (by omega)).mono ?_; rintro e w2 ⟨b, fb, mb, g, x, cs, os, G, q, rfl, qok, hqn, P2, g2, low2⟩
      have A2 : Hid (AllM V w2 [⟨b, G, mMade s⟩]) := (AllM.none HT.out).add (bel_trans G1.out g2) P2.b (fun i hi => Nat.le_trans G1.out.size (low2 i hi))
      have HQ := Lib.hid qok
      clear g2 low2 x0 x1 x2 x3 x4 x5 x6 x7 x8 x9 x10 qok P2
      go_upto_region 4 with (first
        | (refine q_alloc rfl (some 6) rfl (by kernel_rfl) ?_; intro V4 r4 b4 s4)
        | (refine q_whole rfl (.tmp 6) (.tmp 26) rfl w2.heap.size rzero q rfl rfl r4.out HQ.out ?_; intro V5 z5 g5))
      have k5 := only_bel b4 g5.out (Nat.le_refl _)
      have A5 := Lib.hid (A2.out.more k5)
      clear r4 b4 s4 z5 g5 k5 HQ A2
      obtain ⟨x0, x1, x2, x3, x4, x5, x6, x7, x8, x9, x10⟩ := RX.out V5 A5.out.bel
      go_wp2_with fail
      refine (made_yes s HB.out (HS.out.bel A5.out.bel) hm A5.out.tab (by omega) (by omega) (by omega)).mono ?_; rintro e w6 ⟨c, fb', mb', g', x', cs', os', G2, q', rfl, qok, hqn', P6, g6, low6⟩
      have A6 : Hid (AllM V w6 [⟨b, G, mMade s⟩, ⟨c, G2, mMade s⟩]) := A5.out.add g6 P6.b low6
      have HQ := Lib.hid qok
      clear g6 low6 x0 x1 x2 x3 x4 x5 x6 x7 x8 x9 x10 qok P6 A5
      go_upto_region 5 with (first
        | (refine q_alloc rfl (some 8) rfl (by kernel_rfl) ?_; intro V7 r7 b7 s7)
        | (refine q_whole rfl (.tmp 8) (.tmp 31) rfl w6.heap.size rzero q' rfl rfl r7.out HQ.out ?_; intro V8 z8 g8))
      have k8 := only_bel b7 g8.out (Nat.le_refl _)
      have A8 := Lib.hid (A6.out.more k8)
      clear r7 b7 s7 z8 g8 k8 HQ A6
      obtain ⟨e1, e2, e3, e4, e5⟩ := mMade_is s
      obtain ⟨σ, hσ⟩ : ∃ σ, σ = mMade s := ⟨_, rfl⟩
      rw [← hσ] at A8 e1 e2 e3 e4 e5
      have HE := Lib.hid (And.intro e1 (And.intro e2 e4))
      clear e1 e2 e3 e4 e5 hσ
      go_wp2_with fail
      go_loopw [9] (fun i wr => ∃ (j : Nat) (G G2 : Nat → Prop) (m : MS), j ≤ N ∧ j ≤ 60 ∧ i = .int .i64 j ∧ AllM V wr [⟨b, G, m⟩, ⟨c, G2, m⟩] ∧ m.ol ≤ j ∧ m.sz = σ.sz) (fun i _ => N - (intOf i).toNat)
      case atStart => exact ⟨0, G, G2, σ, Nat.zero_le _, Nat.zero_le _, rfl, A8.out, by rw [HE.out.2.2]; exact Nat.le_refl _, rfl⟩
      case round =>
        obtain ⟨j, G, G2, m, hj, hj6, rfl, A, hol, hsz⟩ := hrel
        have A := Lib.hid A
        have OL := Lib.hid hol
        have SZ := Lib.hid hsz
        clear A8 hol hsz
        by_cases hlt : j < N ∧ j < 60
        · have hlt1 : (j : Int) < N := by omega
          have hlt2 : (j : Int) < 60 := by omega
          have hjN := hlt.1
          clear hlt
          obtain ⟨lb, lo, rfl, hcell⟩ := HC.out (by omega)
          have cL := hcell _ (bel_trans gX.out A.out.bel) j hjN
          have HCL : Hid (∀ W, Below V.heap.size V W → W.cell? ⟨lb, lo + j, none⟩ = some (.int .u8 (L j))) := fun W k => hcell _ (bel_trans gX.out k) j hjN
          have hlv := HL.out j
          generalize L j = lv at *
          clear hcell
          obtain ⟨μ, hμ⟩ : ∃ μ, μ = mstep m lv := ⟨_, rfl⟩
          have HO : m.ol ≤ 1000000 := by have := OL.out; omega
          have hlbV : lb < V.heap.size := Nat.lt_of_lt_of_le (block_lt_of_cell (a := ⟨lb, lo + j, none⟩) (HCL.out _ (Below.refl _ _))) (Nat.le_refl _)
          go_upto_region 10 with (fail)
          go_cut [10, 11] from 39 to 120 (fun t10 t11 wx => ∃ y z : Nat, t10 = .pointer (some ⟨y, 0, none⟩) ∧ t11 = .pointer (some ⟨z, 0, none⟩) ∧ SX V wx b c μ μ [(y, sIs μ.sk μ.sv), (z, sIs μ.sk μ.sv)])
          case first =>
            have s0 : SX V wr b c m m [] := ⟨⟨G, G2, A.out, fun p hp => (by cases hp)⟩, List.nodup_nil, fun p hp => (by cases hp)⟩
            have D0 := HCL.out _ s0.bel
            have D0a := al_cell D0 (.cells #[.int .u8 0, .int .u32 0] 37)
            have D0b := al_cell D0a (.cells #[.int .u8 0, .int .u32 0] 37)
            have s0a := s0.al 0 0
            have s0b := s0a.al 0 0
            simp only [alloc_size] at s0b
            have s0d := s0.drew
            have s0ad := s0a.drew
            have s0bd := s0b.drew
            have D0d := HCL.out _ s0d.bel
            have D0ad := HCL.out _ s0ad.bel
            have D0bd := HCL.out _ s0bd.bel
            have z0 : V.heap.size ≤ wr.heap.size := s0.bel.size
            have hl0 : (0 : Int) ≤ lv := by omega
            have hl1 : (lv : Int) < 256 := by omega
            subst hμ
            go_region_held3 (fun W => W.cell? ⟨lb, lo + j, none⟩ = some (.int .u8 (lv : Int)))
              (first
                | with_reducible assumption
                | ((repeat' (first | with_reducible (refine al_cell ?_ _) | with_reducible (refine store_far ?_ ?_))) <;> first | with_reducible assumption | omega))
              (first
                | (go_at_call_of 16 (Value.pointer (some ⟨b, 0, none⟩)); refine (SX.stepA (lv : Int) hl0 hl1 HO (by with_reducible assumption)).mono ?_; rintro e V1 ⟨rfl, s1⟩; have D1 := HCL.out _ s1.bel; have D1a := al_cell D1 (.cells #[.int .u8 0, .int .u32 0] 37); have D1b := al_cell D1a (.cells #[.int .u8 0, .int .u32 0] 37); have z1 := s1.bel.size; have s1a := s1.al 0 0; have s1b := s1a.al 0 0; (try simp only [alloc_size] at s1b))
                | (go_at_call_of 16 (Value.pointer (some ⟨c, 0, none⟩)); refine (SX.stepB (lv : Int) hl0 hl1 HO (by with_reducible assumption)).mono ?_; rintro e V2 ⟨rfl, s2⟩; have D2 := HCL.out _ s2.bel; have z2 := s2.bel.size; try (obtain ⟨yb0, yb1, yg0, yg1, yk, yV⟩ := s2.facts (List.mem_cons_self ..); have qb0 := al_cell yb0; have qb1 := al_cell yb1; have qg0 := al_frozen yb0 yg0; have qg1 := al_frozen yb1 yg1; have qe := Nat.ne_of_lt yk; have qe' := (Nat.ne_of_lt yk).symm); try (obtain ⟨zb0, zb1, zg0, zg1, zk, zV⟩ := s2.facts (List.mem_cons_of_mem _ (List.mem_cons_self ..)); have ne1 := (List.nodup_cons.1 s2.ne).1; simp only [List.map_cons, List.map_nil, List.mem_cons, List.not_mem_nil, or_false] at ne1; have ne2 : ¬ _ := fun e => ne1 (Eq.symm e))))
            all_goals
              go_wp2_with fail
              go_meet
              refine ⟨_, _, rfl, rfl, ?_⟩
              ((repeat (first | with_reducible exact s2 | with_reducible exact s2.swap | with_reducible (refine SX.fill (k0 := 0) (v0 := 0) HT.out ?_) | with_reducible (refine SX.fill2 HT.out ?_) | (with_reducible (refine SX.alE ?_ ?_); focus (simp; done)) | (with_reducible (refine SX.al2E ?_ ?_); focus (simp; done)))); done)
          case rest =>
            obtain ⟨y, z, rfl, rfl, s3⟩ := hcut
            obtain ⟨ya0, ya1, _, _, _, _⟩ := s3.facts (List.mem_cons_self ..)
            obtain ⟨za0, za1, _, _, _, _⟩ := s3.facts (List.mem_cons_of_mem _ (List.mem_cons_self ..))
            have C3 := mstep_chg m lv
            rw [← hμ] at C3
            have OL3 : Hid (μ.ol ≤ j + 1) := by have := C3.o1; have := OL.out; unfold Hid; omega
            have SZ3 : Hid (μ.sz = σ.sz) := C3.sz.trans SZ.out
            have HO3 : μ.ol ≤ 1000000 := by have := OL3.out; omega
            clear C3 hμ HO A OL SZ cL
            have s3 := Lib.hid s3
            go_wp2_with fail
            refine (s3.out.pcA).mono ?_; rintro e w4 ⟨rfl, rfl⟩
            go_wp2_with fail
            refine (s3.out.pcB).mono ?_; rintro e w4 ⟨rfl, rfl⟩
            go_wp2_with fail
            refine (s3.out.psrA).mono ?_; rintro e w4 ⟨rfl, s4⟩
            have s4 := Lib.hid s4
            clear s3 ya0 ya1 za0 za1
            go_wp2_with fail
            refine (s4.out.psrB).mono ?_; rintro e w5 ⟨rfl, s5⟩
            obtain ⟨ya0, ya1, _, _, _, _⟩ := s5.facts (List.mem_cons_self ..)
            have s5 := Lib.hid s5
            clear s4
            by_cases hk : μ.sk = 0
            · rw [hk] at ya0
              go_wp2_with fail
              go_roundw
              case rel =>
                obtain ⟨⟨G', G2', A', _⟩, _, _⟩ := s5.out
                exact ⟨j + 1, G', G2', μ, by omega, by omega, by go_num, A', OL3.out, SZ3.out⟩
              case measure => simp [intOf]; omega
            · have hk' : (μ.sk == 0) = false := by simpa using hk
              go_wp2_with fail
              refine (s5.out.pcA).mono ?_; rintro e w6 ⟨rfl, rfl⟩
              go_wp2_with fail
              refine (s5.out.psrA).mono ?_; rintro e w7 ⟨rfl, s7⟩
              have s7 := Lib.hid s7
              clear s5 ya0 ya1
              go_wp2_with fail
              refine (s7.out.outA HO3).mono ?_; rintro e w8 ⟨pp, qq, rfl, _, s8⟩
              have s8 := Lib.hid s8
              clear s7
              have s9 := s8.out.box #[.int .u8 μ.cwp, .int .u8 μ.pil, .int .u8 μ.bank, .int .u8 μ.fl] 24
              clear s8
              go_upto_region 15 with (fail)
              change Code.wp _ _ _ _ (w8.alloc (.cells #[.int .u8 μ.cwp, .int .u8 μ.pil, .int .u8 μ.bank, .int .u8 μ.fl] 24))
              generalize w8.alloc (.cells #[.int .u8 μ.cwp, .int .u8 μ.pil, .int .u8 μ.bank, .int .u8 μ.fl] 24) = W9 at s9 ⊢
              generalize w8.heap.size = xb at s9 ⊢
              have HS : Hid (∀ W, SX V W b c μ μ [(xb, .cells #[.int .u8 μ.cwp, .int .u8 μ.pil, .int .u8 μ.bank, .int .u8 μ.fl] 24 (0, 0)), (y, sIs μ.sk μ.sv), (z, sIs μ.sk μ.sv)] →
                  W.cell? ⟨lb, lo + j, none⟩ = some (.int .u8 (lv : Int)) ∧ W.cell? ⟨y, 0, none⟩ = some (.int .u8 μ.sk) ∧ W.cell? ⟨y, 1, none⟩ = some (.int .u32 μ.sv) ∧ W.cell? ⟨xb, 0, none⟩ = some (.int .u8 μ.cwp) ∧ W.cell? ⟨xb, 1, none⟩ = some (.int .u8 μ.pil) ∧ W.cell? ⟨xb, 2, none⟩ = some (.int .u8 μ.bank) ∧ W.cell? ⟨xb, 3, none⟩ = some (.int .u8 μ.fl)) := fun W h => by
                obtain ⟨a0, a1, _⟩ := h.facts (y := y) (List.mem_cons_of_mem _ (List.mem_cons_self ..))
                have r := h.row (List.mem_cons_self ..)
                exact ⟨HCL.out _ h.bel, a0, a1, row_cell (j := 0) r rfl, row_cell (j := 1) r rfl, row_cell (j := 2) r rfl, row_cell (j := 3) r rfl⟩
              have hl0 : (0 : Int) ≤ lv := by omega
              have hl1 : (lv : Int) < 256 := by omega
              have s9d := s9.drew
              have DS := HS.out _ s9d
              obtain ⟨q1, q2, q3, q4, q5, q6, q7⟩ := HS.out _ s9
              have s9 := Lib.hid s9
              go_region_held3 (fun W => W.cell? ⟨lb, lo + j, none⟩ = some (.int .u8 (lv : Int)) ∧ W.cell? ⟨y, 0, none⟩ = some (.int .u8 μ.sk) ∧ W.cell? ⟨y, 1, none⟩ = some (.int .u32 μ.sv) ∧ W.cell? ⟨xb, 0, none⟩ = some (.int .u8 μ.cwp) ∧ W.cell? ⟨xb, 1, none⟩ = some (.int .u8 μ.pil) ∧ W.cell? ⟨xb, 2, none⟩ = some (.int .u8 μ.bank) ∧ W.cell? ⟨xb, 3, none⟩ = some (.int .u8 μ.fl))
                (first
                  | with_reducible exact DS
                  | with_reducible exact DA
                  | with_reducible exact DB
                  | with_reducible exact DC
                  | with_reducible exact DE)
                (first
                  | (go_at_call_of 16 (Value.int .u8 (lv : Int)); refine (s9d.stillA (lv : Int) hl0 hl1 HO3 hk).mono ?_; rintro e V1 ⟨rfl, u1⟩; have DA := HS.out _ u1)
                  | (go_at_call_of 16 (Value.int .u8 15); refine (u1.stillA 15 (by decide) (by decide) HO3 hk).mono ?_; rintro e V2 ⟨rfl, u2⟩; have DB := HS.out _ u2)
                  | (go_at_call 18; refine (u2.pcA).mono ?_; rintro e V3 ⟨rfl, rfl⟩)
                  | (go_at_call 19; refine (u2.psrA).mono ?_; rintro e V4 ⟨rfl, u4⟩; have DC := HS.out _ u4)
                  | (go_at_call 20; refine (u4.outA HO3).mono ?_; rintro e V5 ⟨p5, r5, rfl, _, u5⟩; have DE := HS.out _ u5))
              all_goals
                have U5 := Lib.hid u5
                clear q1 q2 q3 q4 q5 q6 q7 DS DA DB DC DE u1 u2 u4 u5 s9d
                go_wp2_with fail
                go_roundw
                case rel =>
                  obtain ⟨⟨G', G2', A', _⟩, _, _⟩ := U5.out
                  exact ⟨j + 1, G', G2', μ, by omega, by omega, by go_num, A', OL3.out, SZ3.out⟩
                case measure => simp [intOf]; omega
        · have hend : (N : Int) ≤ j ∨ ((j : Int) < N ∧ (60 : Int) ≤ j) := by omega
          have hHO : m.ol ≤ 1000000 := by have := OL.out; omega
          obtain ⟨z4, hz4⟩ : ∃ z4 : Nat, z4 = m.sz / 4 := ⟨_, rfl⟩
          have hzz : m.sz = s.sz.toNat := SZ.out.trans HE.out.2.1
          have hm1 : M5.MaySize s.sz := hm.2.2
          have hs0 : 0 ≤ s.sz ∧ s.sz < 9223372036854775808 := by obtain ⟨h1, h2, _⟩ := hm1; omega
          have hq : s.sz.tdiv 4 = (z4 : Int) := by rw [Int.tdiv_eq_ediv_of_nonneg hs0.1]; omega
          have hqw : IntKind.i64.wrap (z4 : Int) = (z4 : Int) := IntWalk.i64_in _ (by obtain ⟨h1, h2, _⟩ := hm1; omega)
          have hz6 : Hid (z4 ≤ 4194304) := by unfold Hid; obtain ⟨h1, h2, _⟩ := hm1; omega
          have HZ4 := Lib.hid hz4
          clear hz4 hzz hm1 hlt OL SZ
          rcases hend with hend | ⟨hend, hend2⟩
          all_goals
            go_upto_region 17 with (fail)
            obtain ⟨fa, ma, ga, xa, ca, oa, PA⟩ := A.out.at' 0 _ rfl
            have PA := Lib.hid PA
            have HD : Hid (∀ W : World, Below wr.heap.size wr W → W.cell? ⟨w.heap.size, 1, none⟩ = some (.int .i64 s.sz)) := fun W k => (RX.out W (bel_trans A.out.bel k)).2.1
            have GD : Below wr.heap.size wr wr.drew := Below.drew (Below.refl _ _)
            have DD := HD.out _ GD
            have CM := Lib.hid (fun (W : World) (k : Below wr.heap.size wr W) => mem_bel (PA.out.bel k))
            have CW := Lib.hid (fun (W : World) (k : Below wr.heap.size wr W) => words_all (PA.out.bel k) z4 HZ4.out)
            go_region_held3 (fun W => W.cell? ⟨w.heap.size, 1, none⟩ = some (.int .i64 s.sz))
              (first
                | exact DD
                | exact D1
                | exact D2)
              (first
                | (go_at_call 21; refine (CM.out _ ?_).mono ?_; exact GD; rintro e W1 ⟨rfl, g1⟩; have G1 := bel_trans GD g1; have D1 := HD.out _ G1; clear g1)
                | (go_at_call 22; refine (CW.out _ ?_).mono ?_; exact G1; rintro e W2 ⟨sl, rfl, SL, g2⟩; have G2' := bel_trans G1 g2; have D2 := HD.out _ G2'; clear g2))
            all_goals
              have SL := Lib.hid SL
              have A2 := Lib.hid (A.out.more G2')
              have X1 := Lib.hid (HD.out _ G2')
              clear A HD DD D1 D2 CM CW PA G1 G2'
              go_wp2_with fail
              obtain ⟨fa, ma, ga, xa, ca, oa, PB⟩ := A2.out.at' 1 _ rfl
              have PB := Lib.hid PB
              have GD : Below W2.heap.size W2 W2.drew := Below.drew (Below.refl _ _)
              have HD : Hid (∀ W : World, Below W2.heap.size W2 W → W.cell? ⟨w.heap.size, 1, none⟩ = some (.int .i64 s.sz)) := fun W k => bel_cell k X1.out
              have DD := HD.out _ GD
              have CM := Lib.hid (fun (W : World) (k : Below W2.heap.size W2 W) => mem_bel (PB.out.bel k))
              have CW := Lib.hid (fun (W : World) (k : Below W2.heap.size W2 W) => words_all (PB.out.bel k) z4 HZ4.out)
              go_region_held3 (fun W => W.cell? ⟨w.heap.size, 1, none⟩ = some (.int .i64 s.sz))
                (first
                  | exact DD
                  | exact D3
                  | exact D4)
                (first
                  | (go_at_call 21; refine (CM.out _ ?_).mono ?_; exact GD; rintro e W3 ⟨rfl, g3⟩; have G3 := bel_trans GD g3; have D3 := HD.out _ G3; clear g3)
                  | (go_at_call 22; refine (CW.out _ ?_).mono ?_; exact G3; rintro e W4 ⟨sk, rfl, SK, g4⟩; have G4 := bel_trans G3 g4; have D4 := HD.out _ G4; clear g4))
              all_goals
                have SK := Lib.hid SK
                have SL := Lib.hid (SL.out.bel G4)
                have A4 := Lib.hid (A2.out.more G4)
                clear A2 HD DD D3 D4 CM CW PB G3 G4 X1
                have HSame := Lib.hid (M5.words_same _ _ z4 _ _ _ hz6.out SL.out SK.out (fun i hi => rfl))
                go_wp2_with fail
                refine HSame.out.mono ?_; rintro e W5 ⟨rfl, k5⟩
                have A5 := Lib.hid (A4.out.more k5)
                clear HSame SL SK A4 k5
                go_wp2_with fail
                refine (all_out A5.out (j := 0) rfl hHO).mono ?_; rintro e W6 ⟨so, rfl, SO, A6, _⟩
                have SO := Lib.hid SO
                have A6 := Lib.hid A6
                clear A5
                go_wp2_with fail
                refine (all_out A6.out (j := 1) rfl hHO).mono ?_; rintro e W7 ⟨sp, rfl, SP, A7, k7⟩
                have HS2 := Lib.hid (M5.words_same _ _ m.ol _ _ _ (by omega) (SO.out.bel k7) SP (fun i hi => rfl))
                have B7 := Lib.hid A7.bel
                clear A6 A7 SO SP k7
                go_wp2_with fail
                refine HS2.out.mono ?_; rintro e W8 ⟨rfl, k8⟩
                have B8 := Lib.hid (bel_trans B7.out k8)
                clear HS2 k8 B7
                go_wp2_with fail
                refine (HEAD.out W8 B8.out).mono ?_; rintro e W9 ⟨rfl, g9⟩
                go_wp2_with fail
                go_ret
                exact ⟨rfl, g9⟩
    · go_wp2_with fail
      refine (made_no s (HS.out.bel G1.out) hm).mono ?_; rintro e w2 ⟨rfl, g2⟩
      have G2 := Lib.hid (bel_trans G1.out g2)
      clear g2 x0 x1 x2 x3 x4 x5 x6 x7 x8 x9 x10
      go_upto_region 4 with (first
        | (refine q_alloc rfl (some 6) rfl (by kernel_rfl) ?_; intro V4 r4 b4 s4)
        | (refine q_whole rfl (.tmp 6) (.tmp 26) rfl w2.heap.size rzero rzero rfl rfl r4.out rzero_ok ?_; intro V5 z5 g5))
      have G5 := Lib.hid (bel_trans G2.out (only_bel b4 g5.out (Nat.le_refl _)))
      clear r4 b4 s4 z5 g5 G2
      obtain ⟨x0, x1, x2, x3, x4, x5, x6, x7, x8, x9, x10⟩ := RX.out V5 G5.out
      go_wp2_with fail
      refine (made_no s (HS.out.bel G5.out) hm).mono ?_; rintro e w6 ⟨rfl, g6⟩
      have G6 := Lib.hid (bel_trans G5.out g6)
      clear g6 x0 x1 x2 x3 x4 x5 x6 x7 x8 x9 x10 G5
      go_upto_region 5 with (first
        | (refine q_alloc rfl (some 8) rfl (by kernel_rfl) ?_; intro V7 r7 b7 s7)
        | (refine q_whole rfl (.tmp 8) (.tmp 31) rfl w6.heap.size rzero rzero rfl rfl r7.out rzero_ok ?_; intro V8 z8 g8))
      have G8 := Lib.hid (bel_trans G6.out (only_bel b7 g8.out (Nat.le_refl _)))
      clear r7 b7 s7 z8 g8 G6
      go_simp
      go_wp2_with fail
      refine (HEAD.out V8 G8.out).mono ?_; rintro e w9 ⟨rfl, g9⟩
      have G9 := Lib.hid g9
      clear g9
      go_wp2_with fail
      go_ret
      exact ⟨rfl, G9.out⟩
  · go_wp2_with fail
    refine (HEAD.out w1 G1.out).mono ?_; rintro e w2 ⟨rfl, g2⟩
    have G2 := Lib.hid g2
    clear g2
    go_wp2_with fail
    go_ret
    exact ⟨rfl, G2.out⟩
end Go.Proofs.YtgbodbejcffclaaGreatDoor.K6
