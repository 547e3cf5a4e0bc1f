/- made (layer 8), walked: the machine ahead of a window's turn. -/
import Derived.Test.YtlmaikbnjdmhcaaGreatDoorTuR
import Derived.Test.YtlmaikbnjdmhcaaGreatDoorWindGC
import Derived.Test.YtlmaikbnjdmhcaaGreatDoorTuMd
import Derived.Test.YtlmaikbnjdmhcaaGreatDoorMachGI
import Derived.Test.YtlmaikbnjdmhcaaGreatDoorInstGE
namespace Go.Proofs.YtlmaikbnjdmhcaaGreatDoor.K6
open Go.RowKit W8
set_option linter.unusedVariables false
/-- A case as it lies in world w, by value. -/
structure CaseAt (w : World) (s : CS) (vr vf vg : Value) : Prop where
  rr : Sl .u32 w vr s.lr s.rg
  rf : Sl .u16 w vf s.lf s.fr
  rg : Sl .u32 w vg s.lg s.gl
theorem CaseAt.bel {w w' : World} {s : CS} {vr vf vg : Value} (h : CaseAt w s vr vf vg) (k : Below w.heap.size w w') : CaseAt w' s vr vf vg := ⟨h.rr.bel k, h.rf.bel k, h.rg.bel k⟩
def crow (s : CS) (vr vf vg : Value) : Array Value := #[.int .i64 s.nw, .int .i64 s.c, vr, vf, .int .u8 s.fl, .int .u8 s.pl, vg, .int .u32 s.fill, .bool s.up]
/-- What made has in hand. -/
structure WM (w V : World) (s : CS) (vr vf vg : Value) (b fb mb g x : Nat) (cs os : Value) (G : Nat → Prop) (m : MS) : Prop where
  P : MachP V b fb mb g x cs os G m
  X : V.heap[w.heap.size]? = some (.cells (crow s vr vf vg) 69 (0, 0))
  gx : ¬ G w.heap.size
  low : ∀ i, G i → w.heap.size ≤ i
  g : Below w.heap.size w V
section
variable {w V V' : World} {s : CS} {vr vf vg : Value} {b fb mb g x : Nat} {cs os : Value} {G : Nat → Prop} {m m' : MS}
theorem WM.bel (h : WM w V s vr vf vg b fb mb g x cs os G m) (k : Below V.heap.size V V') : WM w V' s vr vf vg b fb mb g x cs os G m := ⟨h.P.bel k, bel_heap k h.X, h.gx, h.low, bel_trans h.g k⟩
theorem WM.only {y : Nat} (h : WM w V s vr vf vg b fb mb g x cs os G m) (P' : MachP V' b fb mb g x cs os G m') (k : V.grownBy V' (some y)) (hy : G y) : WM w V' s vr vf vg b fb mb g x cs os G m' :=
  ⟨P', only_heap k (fun e => h.gx (by rw [e]; exact hy)) h.X, h.gx, h.low, only_bel h.g k (h.low _ hy)⟩
theorem WM.turns {H : Nat → Prop} (h : WM w V s vr vf vg b fb mb g x cs os G m) (k : Turns H V V') (hd : ∀ i, G i → ¬ H i) (ht : ∀ i, H i → ¬ isTab i) (hl : ∀ i, H i → w.heap.size ≤ i) (hx : ¬ H w.heap.size) : WM w V' s vr vf vg b fb mb g x cs os G m :=
  ⟨h.P.turns k hd ht, k.heap hx h.X, h.gx, h.low, Turns.bel h.g k hl⟩
theorem WM.step (h : WM w V s vr vf vg b fb mb g x cs os G m) (P' : MachP V' b fb mb g x cs os G m') (k : Turns G V V') : WM w V' s vr vf vg b fb mb g x cs os G m' :=
  ⟨P', k.heap h.gx h.X, h.gx, h.low, Turns.bel h.g k h.low⟩
theorem WM.cells (h : WM w V s vr vf vg b fb mb g x cs os G m) : V.cell? ⟨w.heap.size, 0, none⟩ = some (.int .i64 s.nw) ∧ V.cell? ⟨w.heap.size, 1, none⟩ = some (.int .i64 s.c) ∧ V.cell? ⟨w.heap.size, 2, none⟩ = some vr ∧ V.cell? ⟨w.heap.size, 3, none⟩ = some vf ∧ V.cell? ⟨w.heap.size, 4, none⟩ = some (.int .u8 s.fl) ∧ V.cell? ⟨w.heap.size, 5, none⟩ = some (.int .u8 s.pl) ∧ V.cell? ⟨w.heap.size, 6, none⟩ = some vg ∧ V.cell? ⟨w.heap.size, 7, none⟩ = some (.int .u32 s.fill) ∧ V.cell? ⟨w.heap.size, 8, none⟩ = some (.bool s.up) :=
  ⟨row_cell h.X rfl, row_cell h.X rfl, row_cell h.X rfl, row_cell h.X rfl, row_cell h.X rfl, row_cell h.X rfl, row_cell h.X rfl, row_cell h.X rfl, row_cell h.X rfl⟩
end
theorem wturns_of {G : Nat → Prop} {w w' : World} (h : A7.Turns G w w') : Turns G w w' := ⟨h.os, h.tape, h.output, h.size, h.block⟩
theorem enc_w (x : A7.XI) (hx : A7.XB x) : ∃ er, ∀ W, Calls Tryz.prog 36 #[.agg #[.int .u8 x.o, .int .u8 x.d, .int .u8 x.s, .int .u8 x.t, .bool x.b, .int .i32 x.n]] W fun e w' => e = .returned (.tuple #[.int .u32 x.word, .int .i64 er]) ∧ Below W.heap.size W w' :=
  ⟨_, fun W => (I2.renc_any x.o x.d x.s x.t x.b x.n W hx.o hx.d hx.s hx.t hx.n).mono fun e w' hh => ⟨hh.1, hh.2.bel⟩⟩
theorem wstore {w : World} {b fb mb g x : Nat} {cs os : Value} {G : Nat → Prop} {m : MS} (h : MachP w b fb mb g x cs os G m) (a : Nat) (v : Int) (hv : W32 v) (ht : thE m.sz a 4 = 0) :
    Calls Tryz.prog 37 #[.pointer (some ⟨mb, 0, none⟩), .int .u32 a, .int .i64 4, .int .u32 v] w fun e w' => e = .returned (.int .i64 0) ∧ MachP w' b fb mb g x cs os G { m with f := stB m.f a 4 v } ∧ w.grownBy w' (some g) :=
  (M5.store_yes a 4 v h.mem hv ht).mono fun e w' ⟨h1, h2, h3⟩ => ⟨h1, h.memd h3 h2, h3⟩
/-- The machine so far: its memory, its registers. -/
def mK (nw : Int) (f R : Nat → Int) : MS := { mnew nw 4096 with f := f, R := R }
theorem und_ws (nw : Int) (i : Nat) (h : i < 54) : (und (ovr A7.AS.nil nw) nw).ws i = wW nw i := by
  unfold wW
  rw [if_pos h]
  have aux : ∀ (q : A7.AS) (f : Nat → Int) (k i : Nat), (q.adds f k).ws i = if q.n ≤ i ∧ i < q.n + k then f (i - q.n) else q.ws i := fun q f k => by
    induction k with
    | zero => intro i; rw [if_neg (by omega)]; rfl
    | succ k ih =>
      intro i
      show F3.upd (q.adds f k).ws (q.adds f k).n (f k) i = _
      rw [A7.AS.adds_n]
      unfold F3.upd
      by_cases e : i = q.n + k
      · rw [if_pos e, if_pos (by omega), e, Nat.add_sub_cancel_left]
      · rw [if_neg e, ih]
        by_cases e2 : q.n ≤ i ∧ i < q.n + k
        · rw [if_pos e2, if_pos (by omega)]
        · rw [if_neg e2, if_neg (by omega)]
  unfold und
  rw [aux]
  show (if (ovr A7.AS.nil nw).n ≤ i ∧ i < (ovr A7.AS.nil nw).n + 28 then _ else (ovr A7.AS.nil nw).ws i) = _
  have en : (ovr A7.AS.nil nw).n = 26 := A7.AS.adds_n _ _ _
  rw [en]
  by_cases h26 : 26 ≤ i
  · rw [if_pos (by omega)]
    have e : ((ovr A7.AS.nil nw).mark sUnder).n = 26 := en
    rw [e]
    obtain ⟨j, rfl⟩ : ∃ j, i = 26 + j := ⟨i - 26, by omega⟩
    rw [Nat.add_sub_cancel_left, gX_hi]
  · rw [if_neg (by omega)]
    unfold ovr
    rw [aux]
    show (if (A7.AS.nil.mark sOver).n ≤ i ∧ i < (A7.AS.nil.mark sOver).n + 26 then _ else _) = _
    have e0 : (A7.AS.nil.mark sOver).n = 0 := rfl
    rw [e0, if_pos (by omega), Nat.sub_zero, gX_lo nw i (by omega)]
theorem und_look (nw : Int) : A7.look (und (ovr A7.AS.nil nw) nw).ms sUnder = some 26 := by
  have e1 : (und (ovr A7.AS.nil nw) nw).ms = [(sOver, 0), (sUnder, 26)] := by
    have am : ∀ (q : A7.AS) (f : Nat → Int) (k : Nat), (q.adds f k).ms = q.ms := fun q f k => by
      induction k with
      | zero => rfl
      | succ k ih => exact ih
    have en : (ovr A7.AS.nil nw).n = 26 := A7.AS.adds_n _ _ _
    unfold und
    rw [am]
    show (ovr A7.AS.nil nw).ms ++ [(sUnder, (ovr A7.AS.nil nw).n)] = _
    rw [en]
    unfold ovr
    rw [am]
    rfl
  rw [e1]
  show A7.look ([(sOver, 0)] ++ [(sUnder, 26)]) sUnder = _
  rw [A7.look_snoc, if_pos rfl]
theorem ovr_look (nw : Int) : A7.look (ovr A7.AS.nil nw).ms sUnder = none := by
  have e1 : (ovr A7.AS.nil nw).ms = [(sOver, 0)] := by
    have am : ∀ (q : A7.AS) (f : Nat → Int) (k : Nat), (q.adds f k).ms = q.ms := fun q f k => by
      induction k with
      | zero => rfl
      | succ k ih => exact ih
    unfold ovr
    rw [am]
    rfl
  rw [e1]
  show A7.look ([] ++ [(sOver, 0)]) sUnder = _
  rw [A7.look_snoc, if_neg (by decide)]
  rfl
theorem ovr_ms (nw : Int) : (ovr A7.AS.nil nw).ms = [(sOver, 0)] := by
  have am : ∀ (q : A7.AS) (f : Nat → Int) (k : Nat), (q.adds f k).ms = q.ms := fun q f k => by
    induction k with
    | zero => rfl
    | succ k ih => exact ih
  unfold ovr
  rw [am]
  rfl
theorem mark_js (q : A7.AS) (s : ByteArray) : (q.mark s).js = q.js := rfl
theorem und_js (nw : Int) : (und (ovr A7.AS.nil nw) nw).js = [] := by
  unfold und
  rw [A7.AS.adds_js, mark_js]
  unfold ovr
  rw [A7.AS.adds_js, mark_js]
  rfl
theorem und_n (nw : Int) : (und (ovr A7.AS.nil nw) nw).n = 54 := by
  unfold und
  rw [A7.AS.adds_n]
  show (ovr A7.AS.nil nw).n + 28 = 54
  unfold ovr
  rw [A7.AS.adds_n]
  rfl
theorem th_40 {a : Int} (h0 : 0 ≤ a) (h : a % 4 = 0) (h1 : a + 4 ≤ 4096) : thE (4096 : Nat) a 4 = 0 := th_w h0 h (by omega)
set_option maxRecDepth 100000 in
set_option maxHeartbeats 8000000 in
theorem wmade_at {w : World} (s : CS) {vr vf vg : Value} (hM : s.May) (hB : CSB s) (hC : CaseAt w s vr vf vg) (hT : Tabs w) :
    Calls Tryz.prog 29 #[.agg (crow s vr vf vg)] w fun e w' => ∃ b G, e = .returned (.pointer (some ⟨b, 0, none⟩)) ∧ MachB w' b G (mW s) ∧ Below w.heap.size w w' ∧ ∀ i, G i → w.heap.size ≤ i := by
  obtain ⟨pr, cr, rfl, hcr⟩ := id hC.rr
  obtain ⟨pf, cf, rfl, hcf⟩ := id hC.rf
  obtain ⟨pg, cg, rfl, hcg⟩ := id hC.rg
  have h2 := hM.n2
  have h32 := hM.n32
  have hX : Hid ((w.alloc (.cells (crow s (.slice pr s.lr cr) (.slice pf s.lf cf) (.slice pg s.lg cg)) 69)).heap[w.heap.size]? = some (.cells (crow s (.slice pr s.lr cr) (.slice pf s.lf cf) (.slice pg s.lg cg)) 69 (0, 0))) := heap_alloc_last _ _
  have gX : Hid (Below w.heap.size w (w.alloc (.cells (crow s (.slice pr s.lr cr) (.slice pf s.lf cf) (.slice pg s.lg cg)) 69))) := bel_alK (Below.refl _ _)
  have sX : Hid (w.heap.size < (w.alloc (.cells (crow s (.slice pr s.lr cr) (.slice pf s.lf cf) (.slice pg s.lg cg)) 69)).heap.size) := by unfold Hid; simp
  have HM := Lib.hid hM
  have HB := Lib.hid hB
  have HT := Lib.hid (hT.bel gX.out)
  have HR : Hid (0 < s.lr → ∃ z o, pr = some ⟨z, o, none⟩ ∧ ∀ W, Below w.heap.size w W → ∀ i, i < s.lr → W.cell? ⟨z, o + i, none⟩ = some (.int .u32 (s.rg i))) := fun hn => by
    obtain ⟨z, o, e, hc⟩ := hcr hn
    exact ⟨z, o, e, fun W k i hi => bel_cell k (hc i hi)⟩
  have HF : Hid (0 < s.lf → ∃ z o, pf = some ⟨z, o, none⟩ ∧ ∀ W, Below w.heap.size w W → ∀ i, i < s.lf → W.cell? ⟨z, o + i, none⟩ = some (.int .u16 (s.fr i))) := fun hn => by
    obtain ⟨z, o, e, hc⟩ := hcf hn
    exact ⟨z, o, e, fun W k i hi => bel_cell k (hc i hi)⟩
  have HG8 : Hid (0 < s.lg → ∃ z o, pg = some ⟨z, o, none⟩ ∧ ∀ W, Below w.heap.size w W → ∀ i, i < s.lg → W.cell? ⟨z, o + i, none⟩ = some (.int .u32 (s.gl i))) := fun hn => by
    obtain ⟨z, o, e, hc⟩ := hcg hn
    exact ⟨z, o, e, fun W k i hi => bel_cell k (hc i hi)⟩
  clear hM hB hC hT hcr hcf hcg
  go_enter Tryz.func29, Tryz.ntmps29
  go_upto_region 1 with (fail)
  change Code.wp _ _ _ _ (w.alloc (.cells (crow s (.slice pr s.lr cr) (.slice pf s.lf cf) (.slice pg s.lg cg)) 69))
  generalize w.alloc (.cells (crow s (.slice pr s.lr cr) (.slice pf s.lf cf) (.slice pg s.lg cg)) 69) = V at hX gX sX HT ⊢
  have x0 : V.cell? ⟨w.heap.size, 0, none⟩ = some (.int .i64 s.nw) := row_cell hX.out rfl
  go_wp2_with fail
  refine (New_at s.nw 4096 V h2 h32 ⟨by decide, by decide, by decide⟩ HT.out).mono ?_; rintro e w1 ⟨b, G, rfl, B1, g1, low⟩
  obtain ⟨fb, mb, g, x, cs, os, P1⟩ := B1
  have Q1 : Hid (WM w w1 s (.slice pr s.lr cr) (.slice pf s.lf cf) (.slice pg s.lg cg) b fb mb g x cs os G (mK s.nw (fun _ => 0) (fun _ => 0))) :=
    ⟨P1, bel_heap g1 hX.out, fun e => absurd (low _ e) (Nat.not_le.2 sX.out), fun i hi => Nat.le_trans (Nat.le_of_lt sX.out) (low i hi), bel_trans gX.out g1⟩
  have HT1 := Lib.hid (HT.out.bel g1)
  have SX1 : Hid (w.heap.size < w1.heap.size) := Nat.lt_of_lt_of_le sX.out g1.size
  clear g1 low P1 hX gX sX HT x0
  go_wp2_with fail
  refine (A7.New_at (K := fun _ => False) w1 HT1.out.i (fun _ e => e.elim)).mono ?_; rintro e w2 ⟨a, Ga, rfl, A2, g2, low2⟩
  have H2 := Lib.hid (A7.Has.start A2)
  have FA : Hid (∀ i, Ga i → ¬ isTab i) := fun i hi ht => absurd (HT1.out.lt ht) (Nat.not_lt.2 (low2 i hi))
  have DA : Hid (∀ i, G i → ¬ Ga i) := fun i hi ha => absurd (Q1.out.P.lt i hi) (Nat.not_lt.2 (low2 i ha))
  have LW : Hid (∀ i, Ga i → w.heap.size ≤ i) := fun i hi => Nat.le_trans (Nat.le_of_lt SX1.out) (low2 i hi)
  have LX : Hid (¬ Ga w.heap.size) := fun e => absurd (low2 _ e) (Nat.not_le.2 SX1.out)
  have Q2 := Lib.hid (Q1.out.bel g2)
  have HX : Hid True := trivial
  clear A2 g2 low2 Q1 HT1 SX1
  have x0 := Q2.out.cells.1
  have hq32 : ¬ 32 < s.nw := by omega
  go_wp2_with fail
  refine (Over_at s.nw h2 h32 H2.out rfl (by decide) (by decide)).mono ?_; rintro e w3 ⟨rfl, H3⟩
  have Q3 := Lib.hid (Q2.out.turns (wturns_of H3.turns) DA.out FA.out LW.out LX.out)
  have x0 := Q3.out.cells.1
  have H3 := Lib.hid H3
  go_wp2_with fail
  refine (Under_at s.nw h2 h32 H3.out (ovr_look s.nw) (by rw [ovr_ms]; decide) (by rw [show (ovr A7.AS.nil s.nw).n = 26 from A7.AS.adds_n _ _ _]; decide)).mono ?_; rintro e w4 ⟨rfl, H4⟩
  have Q4 := Lib.hid (Q2.out.turns (wturns_of H4.turns) DA.out FA.out LW.out LX.out)
  have H4 := Lib.hid H4
  clear H2 H3 Q2 Q3 x0
  go_wp2_with fail
  obtain ⟨G', K', A⟩ := H4.out.see
  refine (A7.Words_nil A (und_js s.nw)).mono ?_; rintro e w5 ⟨l, rfl, own, g5⟩
  rw [und_n] at own
  have SL := Lib.hid ((own_sl own).congr (und_ws s.nw))
  have Q5 := Lib.hid (Q4.out.bel g5)
  have H5 := Lib.hid (H4.out.bel g5)
  clear A own g5 H4 Q4
  obtain ⟨pl, cl, rfl, _⟩ := id SL.out
  obtain ⟨G', K', A⟩ := H5.out.see
  have AT := Lib.hid (A7.At_at sUnder sUnder_size A)
  unfold A7.atV A7.atE at AT
  rw [und_look] at AT
  unfold sUnder at AT
  clear A H5
  go_wp2_with fail
  refine AT.out.mono ?_; rintro e w6 ⟨rfl, rfl⟩
  clear AT
  go_wp2_with fail
  refine (Mem_get Q5.out.P).mono ?_; rintro e w7 ⟨rfl, rfl⟩
  go_wp2_with fail
  refine (M5.put_yes 768 Q5.out.P.mem SL.out (wW_w h2 h32) (show spE ((4096 : Nat) : Int) 768 54 = 0 by decide)).mono ?_; rintro e w8 ⟨rfl, M8, g8⟩
  have Q8 : Hid (WM w w8 s (.slice pr s.lr cr) (.slice pf s.lf cf) (.slice pg s.lg cg) b fb mb g x cs os G (mK s.nw (ptB (fun _ => 0) 768 (wW s.nw) 54) (fun _ => 0))) := Q5.out.only (Q5.out.P.memd g8 M8) g8 Q5.out.P.gg
  clear M8 g8 Q5 SL
  obtain ⟨er1, HE1⟩ := enc_w (sBr 124) (sBr_b ⟨by decide, by decide⟩)
  obtain ⟨er2, HE2⟩ := enc_w (sBr 146) (sBr_b ⟨by decide, by decide⟩)
  have HE1 := Lib.hid HE1
  have HE2 := Lib.hid HE2
  have HW1 := Lib.hid (xw_w (sBr_b (k := 124) ⟨by decide, by decide⟩))
  have HW2 := Lib.hid (xw_w (sBr_b (k := 146) ⟨by decide, by decide⟩))
  go_wp2_with fail
  refine (HE1.out _).mono ?_; rintro e w9 ⟨rfl, g9⟩
  have Q9 := Lib.hid (Q8.out.bel g9)
  clear Q8 g9 HE1
  go_wp2_with fail
  refine (HE2.out _).mono ?_; rintro e w10 ⟨rfl, g10⟩
  have Q10 := Lib.hid (Q9.out.bel g10)
  clear Q9 g10 HE2
  go_wp2_with fail
  refine (Mem_get Q10.out.P).mono ?_; rintro e w11 ⟨rfl, rfl⟩
  go_wp2_with fail
  refine (wstore Q10.out.P 272 (sBr 124).word HW1.out (th_40 (by decide) (by decide) (by decide))).mono ?_; rintro e w12 ⟨rfl, P12, g12⟩
  have Q12 := Lib.hid (Q10.out.only P12 g12 Q10.out.P.gg)
  clear P12 g12 Q10
  go_wp2_with fail
  refine (Mem_get Q12.out.P).mono ?_; rintro e w13 ⟨rfl, rfl⟩
  go_wp2_with fail
  refine (wstore Q12.out.P 288 (sBr 146).word HW2.out (th_40 (by decide) (by decide) (by decide))).mono ?_; rintro e w14 ⟨rfl, P14, g14⟩
  have Q14 : Hid (WM w w14 s (.slice pr s.lr cr) (.slice pf s.lf cf) (.slice pg s.lg cg) b fb mb g x cs os G (mK s.nw (wF s.nw s.fill 0) (fun _ => 0))) := Q12.out.only P14 g14 Q12.out.P.gg
  clear P14 g14 Q12 HW1 HW2
  go_wp2_with fail
  go_loopw [14] (fun i wr => ∃ k : Nat, k ≤ 512 ∧ i = .int .i64 (2048 + 4 * (k : Int)) ∧ WM w wr s (.slice pr s.lr cr) (.slice pf s.lf cf) (.slice pg s.lg cg) b fb mb g x cs os G (mK s.nw (wF s.nw s.fill k) (fun _ => 0))) (fun i _ => (4096 - intOf i).toNat)
  case atStart => exact ⟨0, by decide, rfl, Q14.out⟩
  case round =>
    obtain ⟨k, hk, rfl, Q⟩ := hrel
    have Q := Lib.hid Q
    clear Q14
    by_cases hlt : k < 512
    · have hlt' : 2048 + 4 * (k : Int) < 4096 := by omega
      have w4k : IntKind.i64.wrap (2048 + 4 * (k : Int) + 4) = 2048 + 4 * (k : Int) + 4 := IntWalk.i64_in _ (by omega)
      have u4k : IntKind.u32.wrap (2048 + 4 * (k : Int)) = 2048 + 4 * (k : Int) := IntWalk.u32_in _ (by omega)
      have HK := Lib.hid hlt
      have x7 := Q.out.cells.2.2.2.2.2.2.2.1
      go_wp2_with fail
      have QD := Lib.hid (Q.out.bel (Below.drew (Below.refl _ _)))
      have DD : wr.drew.cell? ⟨w.heap.size, 7, none⟩ = some (.int .u32 s.fill) := QD.out.cells.2.2.2.2.2.2.2.1
      have HS : Hid (∀ a v : Int, a = 2048 + 4 * (k : Int) → v = wFill s.fill k → Calls Tryz.prog 37 #[.pointer (some ⟨mb, 0, none⟩), .int .u32 a, .int .i64 4, .int .u32 v] wr.drew fun e w' => e = .returned (.int .i64 0) ∧ WM w w' s (.slice pr s.lr cr) (.slice pf s.lf cf) (.slice pg s.lg cg) b fb mb g x cs os G (mK s.nw (wF s.nw s.fill (k + 1)) (fun _ => 0))) := by
        rintro _ _ rfl rfl
        have C := wstore QD.out.P (2048 + 4 * k) (wFill s.fill k) (wFill_w _ _) (th_40 (by omega) (by omega) (by have := HK.out; omega))
        rw [show ((2048 + 4 * k : Nat) : Int) = 2048 + 4 * (k : Int) by omega] at C
        refine C.mono ?_
        rintro e w' ⟨h1, h2, h3⟩
        exact ⟨h1, QD.out.only h2 h3 QD.out.P.gg⟩
      go_region_held3 (fun W => W.cell? ⟨w.heap.size, 7, none⟩ = some (.int .u32 s.fill))
        (first
          | exact DD
          | exact D2)
        (first
          | (go_at_call 20; refine (Mem_get QD.out.P).mono ?_; rintro e V1 ⟨rfl, hV1⟩; subst hV1)
          | (go_at_call 37; refine (HS.out _ _ rfl rfl).mono ?_; rintro e V2 ⟨rfl, Q2⟩; have D2 : V2.cell? ⟨w.heap.size, 7, none⟩ = some (.int .u32 s.fill) := Q2.cells.2.2.2.2.2.2.2.1))
      all_goals
        first
          | (have Q2 := Lib.hid Q2
             clear QD DD HS Q x7 D2
             go_wp2_with fail
             go_roundw
             case rel => exact ⟨k + 1, HK.out, by go_num, Q2.out⟩
             case measure => simp only [intOf]; have := HK.out; omega)
          | done
    · obtain rfl : k = 512 := by omega
      have x8 := Q.out.cells.2.2.2.2.2.2.2.2
      have hge : ¬ 2048 + 4 * ((512 : Nat) : Int) < 4096 := by omega
      go_upto_if 119 with (fail)
      go_cut [15] (fun v wx => v = .int .u8 s.op ∧ WM w wx s (.slice pr s.lr cr) (.slice pf s.lf cf) (.slice pg s.lg cg) b fb mb g x cs os G (mK s.nw (wF s.nw s.fill 512) (fun _ => 0)))
      case first =>
        cases hup : s.up
        · have x8' : wr.cell? ⟨w.heap.size, 8, none⟩ = some (.bool false) := by rw [← hup]; exact x8
          clear x8
          go_wp2_with fail
          go_meet
          exact ⟨by unfold CS.op; rw [hup]; rfl, Q.out⟩
        · have x8' : wr.cell? ⟨w.heap.size, 8, none⟩ = some (.bool true) := by rw [← hup]; exact x8
          clear x8
          go_wp2_with fail
          go_meet
          exact ⟨by unfold CS.op; rw [hup]; rfl, Q.out⟩
      case rest =>
        obtain ⟨rfl, QB⟩ := hcut
        have QB := Lib.hid QB
        clear Q x8
        obtain ⟨er3, HE3⟩ := enc_w (sTr s.op) (sTr_b (by unfold CS.op; split; exact .inr rfl; exact .inl rfl))
        have HE3 := Lib.hid HE3
        have HW3 := Lib.hid (sTr_w HM.out)
        go_wp2_with fail
        refine (HE3.out _).mono ?_; rintro e w15 ⟨rfl, g15⟩
        have Q15 := Lib.hid (QB.out.bel g15)
        clear QB g15 HE3
        go_wp2_with fail
        refine (Mem_get Q15.out.P).mono ?_; rintro e w16 ⟨rfl, rfl⟩
        go_wp2_with fail
        refine (wstore Q15.out.P 1536 (sTr s.op).word HW3.out (th_40 (by decide) (by decide) (by decide))).mono ?_; rintro e w17 ⟨rfl, P17, g17⟩
        have Q17 : Hid (WM w w17 s (.slice pr s.lr cr) (.slice pf s.lf cf) (.slice pg s.lg cg) b fb mb g x cs os G (mK s.nw s.mem (s.rR 0))) := Q15.out.only P17 g17 Q15.out.P.gg
        clear P17 g17 Q15 HW3
        go_wp2_with fail
        go_loopw [18] (fun i wr => ∃ k : Nat, k ≤ s.lr ∧ i = .int .i64 k ∧ WM w wr s (.slice pr s.lr cr) (.slice pf s.lf cf) (.slice pg s.lg cg) b fb mb g x cs os G (mK s.nw s.mem (s.rR k))) (fun i _ => s.lr - (intOf i).toNat)
        case atStart => exact ⟨0, Nat.zero_le _, rfl, Q17.out⟩
        case round =>
          obtain ⟨k, hk, rfl, Q⟩ := hrel
          have Q := Lib.hid Q
          clear Q17
          by_cases hlt : k < s.lr
          · obtain ⟨z, o, rfl, hc⟩ := HR.out (by omega)
            have x0 := Q.out.cells.1
            have x2 := Q.out.cells.2.2.1
            have lr5 := HM.out.lr
            have e1 : Int.tmod (Int.tdiv (k : Int) 16) s.nw = (k : Int) / 16 % s.nw := by rw [Int.tdiv_eq_ediv_of_nonneg (by omega), Int.tmod_eq_emod_of_nonneg (by omega)]
            have e2 : Int.tmod (k : Int) 16 = (k : Int) % 16 := Int.tmod_eq_emod_of_nonneg (by omega)
            have b1 := Int.emod_nonneg ((k : Int) / 16) (b := s.nw) (by omega)
            have b2 := Int.emod_lt_of_pos ((k : Int) / 16) (b := s.nw) (by omega)
            have HK := Lib.hid hlt
            have nz : ¬ s.nw = 0 := by omega
            have cz : wr.cell? ⟨z, o + k, none⟩ = some (.int .u32 (s.rg k)) := hc wr Q.out.g k hlt
            have HC := Lib.hid hc
            clear hc
            go_wp2_with fail
            have QD := Lib.hid (Q.out.bel (Below.drew (Below.refl _ _)))
            have DD : wr.drew.cell? ⟨w.heap.size, 0, none⟩ = some (.int .i64 s.nw) ∧ wr.drew.cell? ⟨w.heap.size, 2, none⟩ = some (.slice (some ⟨z, o, none⟩) s.lr cr) ∧ wr.drew.cell? ⟨z, o + k, none⟩ = some (.int .u32 (s.rg k)) := ⟨QD.out.cells.1, QD.out.cells.2.2.1, HC.out _ QD.out.g k HK.out⟩
            have HS : Hid (∀ a r : Int, a = (k : Int) / 16 % s.nw → r = 16 + (k : Int) % 16 → Calls Tryz.prog 38 #[.pointer (some ⟨fb, 0, none⟩), .int .i64 a, .int .i64 0, .int .i64 r, .int .u32 (s.rg k)] wr.drew fun e w' => e = .returned (.int .i64 0) ∧ WM w w' s (.slice (some ⟨z, o, none⟩) s.lr cr) (.slice pf s.lf cf) (.slice pg s.lg cg) b fb mb g x cs os G (mK s.nw s.mem (s.rR (k + 1)))) := by
              rintro _ _ rfl rfl
              refine (set_yes QD.out.P ((k : Int) / 16 % s.nw) 0 (16 + (k : Int) % 16) (s.rg k) (HB.out.rg k) ⟨b1, b2, by decide, by decide, by omega, by omega⟩).mono ?_
              rintro e w' ⟨h1, h2, h3⟩
              exact ⟨h1, QD.out.only h2 h3 QD.out.P.gf⟩
            have EA : Hid ((IntKind.i64.wrap ((k : Int) / 16)).tmod s.nw = (k : Int) / 16 % s.nw) := by
              have : IntKind.i64.wrap ((k : Int) / 16) = (k : Int) / 16 := IntWalk.i64_in _ (by omega)
              unfold Hid
              rw [this, Int.tmod_eq_emod_of_nonneg (by omega)]
            have EB : Hid (IntKind.i64.wrap (16 + (k : Int) % 16) = 16 + (k : Int) % 16) := IntWalk.i64_in _ (by omega)
            clear b1 b2
            go_region_held3 (fun W => W.cell? ⟨w.heap.size, 0, none⟩ = some (.int .i64 s.nw) ∧ W.cell? ⟨w.heap.size, 2, none⟩ = some (.slice (some ⟨z, o, none⟩) s.lr cr) ∧ W.cell? ⟨z, o + k, none⟩ = some (.int .u32 (s.rg k)))
              (first
                | exact DD
                | exact D2)
              (first
                | (go_at_call 15; refine (File_get QD.out.P).mono ?_; rintro e V1 ⟨rfl, hV1⟩; subst hV1)
                | (go_at_call 38; refine (HS.out _ _ EA.out EB.out).mono ?_; rintro e V2 ⟨rfl, Q2⟩; have D2 : V2.cell? ⟨w.heap.size, 0, none⟩ = some (.int .i64 s.nw) ∧ V2.cell? ⟨w.heap.size, 2, none⟩ = some (.slice (some ⟨z, o, none⟩) s.lr cr) ∧ V2.cell? ⟨z, o + k, none⟩ = some (.int .u32 (s.rg k)) := ⟨Q2.cells.1, Q2.cells.2.2.1, HC.out _ Q2.g k HK.out⟩))
            have Q2 := Lib.hid Q2
            clear QD DD HS Q x0 x2 cz D2
            go_wp2_with fail
            go_roundw
            case rel => exact ⟨k + 1, HK.out, by go_num, Q2.out⟩
            case measure => simp only [intOf]; have := HK.out; omega
          · obtain rfl : k = s.lr := by omega
            have x2 := Q.out.cells.2.2.1
            go_wp2_with fail
            go_loopw [19] (fun i wr => ∃ k : Nat, (k : Int) ≤ s.nw ∧ i = .int .i64 k ∧ WM w wr s (.slice pr s.lr cr) (.slice pf s.lf cf) (.slice pg s.lg cg) b fb mb g x cs os G (mK s.nw s.mem (s.fR k))) (fun i _ => (s.nw - intOf i).toNat)
            case atStart => exact ⟨0, by omega, rfl, Q.out⟩
            case round =>
              obtain ⟨k, hk, rfl, QF⟩ := hrel
              have QF := Lib.hid QF
              clear Q x2
              have x0 := QF.out.cells.1
              by_cases hlt : (k : Int) < s.nw
              · have x3 := QF.out.cells.2.2.2.1
                have w64 : IntKind.i64.wrap ((k : Int) * 64) = (k : Int) * 64 := IntWalk.i64_in _ (by omega)
                have u64 : IntKind.u16.wrap ((k : Int) * 64) = (k : Int) * 64 := IntWalk.u16_in _ (by omega)
                have HK := Lib.hid hlt
                go_upto_if 166 with (fail)
                go_cut [20] (fun v wx => v = .int .u16 (s.fv k) ∧ WM w wx s (.slice pr s.lr cr) (.slice pf s.lf cf) (.slice pg s.lg cg) b fb mb g x cs os G (mK s.nw s.mem (s.fR k)))
                case first =>
                  by_cases hf : k < s.lf
                  · have efv : s.fr k = s.fv k := by unfold CS.fv; rw [if_pos hf]
                    have EFV := Lib.hid efv
                    obtain ⟨z, o, rfl, hc⟩ := HF.out (by omega)
                    have cz := hc wr QF.out.g k hf
                    clear hc efv
                    go_wp2_with fail
                    go_meet
                    exact ⟨by rw [← EFV.out], QF.out⟩
                  · have efv : (k : Int) * 64 = s.fv k := by unfold CS.fv; rw [if_neg hf]; omega
                    have EFV := Lib.hid efv
                    clear efv
                    go_wp2_with fail
                    go_meet
                    exact ⟨by rw [← EFV.out], QF.out⟩
                case rest =>
                  obtain ⟨rfl, QB⟩ := hcut
                  have QB := Lib.hid QB
                  clear QF x3 w64 u64
                  have HP := Lib.hid (show s.fp k = 2048 + s.fv k % 496 * 4 from rfl)
                  have v0 : 0 ≤ s.fv k ∧ s.fv k < 65536 := by unfold CS.fv; split; exact HB.out.fr k; omega
                  obtain ⟨v, hv⟩ : ∃ v, v = s.fv k := ⟨_, rfl⟩
                  rw [← hv] at HP v0 ⊢
                  have v1 := v0.1
                  have v2 := v0.2
                  have e5 : Int.tmod v 496 = v % 496 := Int.tmod_eq_emod_of_nonneg v1
                  have b5 : 0 ≤ v % 496 ∧ v % 496 < 496 := ⟨Int.emod_nonneg _ (by decide), Int.emod_lt_of_pos _ (by decide)⟩
                  obtain ⟨r, hr⟩ : ∃ r, r = v % 496 := ⟨_, rfl⟩
                  rw [← hr] at HP e5 b5
                  have r0 := b5.1
                  have r1 := b5.2
                  clear hv v0 hr b5
                  go_wp2_with fail
                  refine (File_get QB.out.P).mono ?_; rintro e w21 ⟨rfl, rfl⟩
                  go_wp2_with fail
                  have C := set_yes QB.out.P (k : Int) 0 14 (s.fp k) (by have := fp_fr (s := s) k; unfold Fr at this; unfold W32; omega) ⟨by omega, HK.out, by decide, by decide, by decide, by decide⟩
                  rw [HP.out] at C
                  refine C.mono ?_; rintro e w22 ⟨rfl, P22, g22⟩
                  rw [← HP.out] at P22
                  have Q22 : Hid (WM w w22 s (.slice pr s.lr cr) (.slice pf s.lf cf) (.slice pg s.lg cg) b fb mb g x cs os G (mK s.nw s.mem (s.fR (k + 1)))) := QB.out.only P22 g22 QB.out.P.gf
                  clear C P22 g22 QB e5 r0 r1 HP
                  go_wp2_with fail
                  go_roundw
                  case rel => exact ⟨k + 1, by have := HK.out; omega, by go_num, Q22.out⟩
                  case measure => simp only [intOf]; have := HK.out; omega
              · have ek : (k : Int) = s.nw := by omega
                have ekn : k = s.nw.toNat := by omega
                have QN : Hid (WM w wr s (.slice pr s.lr cr) (.slice pf s.lf cf) (.slice pg s.lg cg) b fb mb g x cs os G (mK s.nw s.mem (s.gR 0))) := by
                  have := QF.out
                  rw [ekn] at this
                  exact this
                clear QF
                go_wp2_with fail
                go_loopw [21] (fun i wr => ∃ k : Nat, k ≤ s.lg ∧ i = .int .i64 k ∧ WM w wr s (.slice pr s.lr cr) (.slice pf s.lf cf) (.slice pg s.lg cg) b fb mb g x cs os G (mK s.nw s.mem (s.gR k))) (fun i _ => s.lg - (intOf i).toNat)
                case atStart => exact ⟨0, Nat.zero_le _, rfl, QN.out⟩
                case round =>
                  clear ek ekn hk hlt x0
                  obtain ⟨k, hk, rfl, Q⟩ := hrel
                  have Q := Lib.hid Q
                  clear QN
                  have x6 := Q.out.cells.2.2.2.2.2.2.1
                  by_cases hlt : k < s.lg
                  · obtain ⟨z, o, rfl, hc⟩ := HG8.out (by omega)
                    have lg1 := HM.out.lg
                    have e1 : Int.tmod (k : Int) 16 = (k : Int) % 16 := Int.tmod_eq_emod_of_nonneg (by omega)
                    have e2 : Int.tmod (k : Int) 7 = (k : Int) % 7 := Int.tmod_eq_emod_of_nonneg (by omega)
                    have HK := Lib.hid hlt
                    have cz := hc wr Q.out.g k hlt
                    have HC := Lib.hid hc
                    clear hc
                    go_wp2_with fail
                    have QD := Lib.hid (Q.out.bel (Below.drew (Below.refl _ _)))
                    have DD : wr.drew.cell? ⟨w.heap.size, 6, none⟩ = some (.slice (some ⟨z, o, none⟩) s.lg cg) ∧ wr.drew.cell? ⟨z, o + k, none⟩ = some (.int .u32 (s.gl k)) := ⟨QD.out.cells.2.2.2.2.2.2.1, HC.out _ QD.out.g k HK.out⟩
                    have EB : Hid (IntKind.i64.wrap (1 + (k : Int) % 7) = 1 + (k : Int) % 7) := IntWalk.i64_in _ (by omega)
                    have HS : Hid (∀ a r : Int, a = (k : Int) % 16 → r = 1 + (k : Int) % 7 → Calls Tryz.prog 38 #[.pointer (some ⟨fb, 0, none⟩), .int .i64 0, .int .i64 a, .int .i64 r, .int .u32 (s.gl k)] wr.drew fun e w' => e = .returned (.int .i64 0) ∧ WM w w' s (.slice pr s.lr cr) (.slice pf s.lf cf) (.slice (some ⟨z, o, none⟩) s.lg cg) b fb mb g x cs os G (mK s.nw s.mem (s.gR (k + 1)))) := by
                      rintro _ _ rfl rfl
                      refine (set_yes QD.out.P 0 ((k : Int) % 16) (1 + (k : Int) % 7) (s.gl k) (HB.out.gl k) ⟨by decide, by show (0 : Int) < s.nw; omega, by omega, by omega, by omega, by omega⟩).mono ?_
                      rintro e w' ⟨h1, h2, h3⟩
                      exact ⟨h1, QD.out.only h2 h3 QD.out.P.gf⟩
                    go_region_held3 (fun W => W.cell? ⟨w.heap.size, 6, none⟩ = some (.slice (some ⟨z, o, none⟩) s.lg cg) ∧ W.cell? ⟨z, o + k, none⟩ = some (.int .u32 (s.gl k)))
                      (first
                        | exact DD
                        | exact D2)
                      (first
                        | (go_at_call 15; refine (File_get QD.out.P).mono ?_; rintro e V1 ⟨rfl, hV1⟩; subst hV1)
                        | (go_at_call 38; refine (HS.out _ _ rfl EB.out).mono ?_; rintro e V2 ⟨rfl, Q2⟩; have D2 : V2.cell? ⟨w.heap.size, 6, none⟩ = some (.slice (some ⟨z, o, none⟩) s.lg cg) ∧ V2.cell? ⟨z, o + k, none⟩ = some (.int .u32 (s.gl k)) := ⟨Q2.cells.2.2.2.2.2.2.1, HC.out _ Q2.g k HK.out⟩))
                    have Q2 := Lib.hid Q2
                    clear QD DD HS Q x6 cz D2
                    go_wp2_with fail
                    go_roundw
                    case rel => exact ⟨k + 1, HK.out, by go_num, Q2.out⟩
                    case measure => simp only [intOf]; have := HK.out; omega
                  · obtain rfl : k = s.lg := by omega
                    go_wp2_with fail
                    refine (PC_set 1536 Q.out.P ⟨by decide, by decide⟩).mono ?_; rintro e w23 ⟨rfl, P23, g23⟩
                    have Q23 := Lib.hid (Q.out.only P23 g23 Q.out.P.gb)
                    clear P23 g23 Q x6
                    have x1 := Q23.out.cells.2.1
                    have x5 := Q23.out.cells.2.2.2.2.2.1
                    have x4 := Q23.out.cells.2.2.2.2.1
                    have c0 := HM.out.c0
                    have c1 := HM.out.c1
                    have wc : IntKind.u8.wrap s.c = s.c := IntWalk.u8_in _ (by omega)
                    go_wp2_with fail
                    have pl1 := HM.out.pl
                    have fl1 := HM.out.fl
                    refine (SetPsr_yes Q23.out.P s.c s.pl 0 s.fl ⟨by omega, by omega⟩ HB.out.pl ⟨by decide, by decide⟩ HB.out.fl ⟨h2, h32, c1, pl1, by decide, fl1⟩).mono ?_; rintro e w24 ⟨rfl, P24, g24⟩
                    have Q24 := Lib.hid (Q23.out.only P24 g24 Q23.out.P.gb)
                    clear P24 g24 Q23 x1 x5 x4 wc
                    have x0 := Q24.out.cells.1
                    have x1 := Q24.out.cells.2.1
                    have x8 := Q24.out.cells.2.2.2.2.2.2.2.2
                    have t0 := (CS.to_b HM.out).1
                    have t1 := (CS.to_b HM.out).2
                    have e1 : Int.tmod (s.c + s.nw - 1) s.nw = (s.c + s.nw - 1) % s.nw := Int.tmod_eq_emod_of_nonneg (by omega)
                    have e2 : Int.tmod (s.c + 1) s.nw = (s.c + 1) % s.nw := Int.tmod_eq_emod_of_nonneg (by omega)
                    have nz : ¬ s.nw = 0 := by omega
                    go_upto_if 223 with (fail)
                    go_cut [22] (fun v wx => v = .int .i64 s.to ∧ wx = w24)
                    case first =>
                      cases hup : s.up
                      · have x8' : w24.cell? ⟨w.heap.size, 8, none⟩ = some (.bool false) := by rw [← hup]; exact x8
                        have et : (s.c + s.nw - 1) % s.nw = s.to := by unfold CS.to; rw [hup]; rfl
                        have ET := Lib.hid et
                        clear x8 et
                        go_wp2_with fail
                        go_meet
                        exact ⟨by rw [← ET.out], rfl⟩
                      · have x8' : w24.cell? ⟨w.heap.size, 8, none⟩ = some (.bool true) := by rw [← hup]; exact x8
                        have et : (s.c + 1) % s.nw = s.to := by unfold CS.to; rw [hup]; rfl
                        have ET := Lib.hid et
                        clear x8 et
                        go_wp2_with fail
                        go_meet
                        exact ⟨by rw [← ET.out], rfl⟩
                    case rest =>
                      obtain ⟨rfl, rfl⟩ := hcut
                      obtain ⟨t, ht⟩ : ∃ t : Nat, s.to = (t : Int) := ⟨s.to.toNat, by omega⟩
                      have t2 : t < 32 := by omega
                      have htn : (t : Int) < s.nw := by omega
                      have HP := Lib.hid (P4.pw_mod t2)
                      have HTO : Hid (P4.pw s.to.toNat = P4.pw t) := by rw [ht]; rfl
                      rw [ht]
                      clear ht t0 t1 e1 e2 x8 x0 x1
                      go_wp2_with fail
                      rw [HP.out]
                      refine (SetWim_yes (P4.pw t) Q24.out.P (by show (wx (P4.pw t) s.nw).isSome = true; rw [wx_pw (by omega)]; rfl)).mono ?_; rintro e w25 ⟨rfl, P25, g25⟩
                      have Q25 := Lib.hid (Q24.out.only P25 g25 Q24.out.P.gb)
                      clear P25 g25 Q24
                      go_wp2_with fail
                      go_ret
                      refine ⟨b, G, rfl, ?_, Q25.out.g, Q25.out.low⟩
                      have := Q25.out.P.b
                      unfold mW
                      rw [HTO.out]
                      exact this
end Go.Proofs.YtlmaikbnjdmhcaaGreatDoor.K6
