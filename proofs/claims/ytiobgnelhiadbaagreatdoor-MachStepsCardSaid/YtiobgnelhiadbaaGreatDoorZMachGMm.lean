/- made (layer 6): a machine out of a start; the document's beside it, as far as its shape goes. -/
import Derived.Test.YtiobgnelhiadbaaGreatDoorZMachGMd
import Derived.Test.YtiobgnelhiadbaaGreatDoorZMachGRf
namespace Go.Proofs.YtiobgnelhiadbaaGreatDoor.K6
open Go.RowKit
set_option linter.unusedVariables false
/-- A register that is set. -/
structure RG where
  x : Int
  k : Int
  r : Int
  v : Int
open Classical in
noncomputable def mPut (m : MS) (l : Nat) (f : Nat → Int) : MS := if spE m.sz 0 l = 0 then { m with f := ptB m.f 0 f l } else m
open Classical in
noncomputable def mPsr (m : MS) (c p k f : Int) : MS := if P4.State c p k f m.nw then m.put c p k f else m
def mWim (m : MS) (u : Int) : MS := if (wx u m.nw).isSome then m.inv u else m
open Classical in
noncomputable def mReg (m : MS) (a : RG) : MS := if F3.Named m.nw a.x a.k a.r then { m with R := F3.setR m.R m.nw a.x a.k a.r a.v } else m
noncomputable def mRegs (m : MS) (A : Nat → RG) : Nat → MS
  | 0 => m
  | i + 1 => mReg (mRegs m A i) (A i)
/-- What a start is made of. -/
structure ST where
  n : Int
  sz : Int
  pc : Int
  c : Int
  p : Int
  k : Int
  f : Int
  wim : Int
  lw : Nat
  fw : Nat → Int
  lr : Nat
  A : Nat → RG
  lc : Nat
  fc : Nat → Int
noncomputable def mMade (s : ST) : MS := { mRegs (mWim (mPsr ((mPut (mnew s.n s.sz.toNat) s.lw s.fw).jmp s.pc) s.c s.p s.k s.f) s.wim) s.A s.lr with cl := s.lc, ch := s.fc }
/-- Can there be a machine? -/
def ST.may (s : ST) : Prop := 2 ≤ s.n ∧ s.n ≤ 32 ∧ M5.MaySize s.sz
structure STB (s : ST) : Prop where
  pc : W32 s.pc
  c : P4.Byte s.c
  p : P4.Byte s.p
  k : P4.Byte s.k
  f : P4.Byte s.f
  wim : W32 s.wim
  fw : ∀ i, W32 (s.fw i)
  A : ∀ i, i < s.lr → W32 (s.A i).v
  fc : ∀ i, W32 (s.fc i)
/-- Registers in a slice. -/
def Rgs (w : World) (l : Value) (n : Nat) (A : Nat → RG) : Prop :=
  ∃ p c, l = .slice p n c ∧ (0 < n → ∃ b o, p = some ⟨b, o, none⟩ ∧ ∀ i, i < n → w.cell? ⟨b, o + i * 4, none⟩ = some (.int .i64 (A i).x) ∧ w.cell? ⟨b, o + i * 4 + 1, none⟩ = some (.int .i64 (A i).k) ∧ w.cell? ⟨b, o + i * 4 + 2, none⟩ = some (.int .i64 (A i).r) ∧ w.cell? ⟨b, o + i * 4 + 3, none⟩ = some (.int .u32 (A i).v))
/-- A start as it lies in world w, by value. -/
structure StAt (w : World) (s : ST) (vw vr vc : Value) : Prop where
  sw : Sl .u32 w vw s.lw s.fw
  sr : Rgs w vr s.lr s.A
  sc : SlP w vc s.lc s.fc
def srow (s : ST) (vw vr vc : Value) : Array Value := #[.int .i64 s.n, .int .i64 s.sz, .int .u32 s.pc, .int .u8 s.c, .int .u8 s.p, .int .u8 s.k, .int .u8 s.f, .int .u32 s.wim, vw, vr, vc]
/-- The document's machine, as far as its shape goes; its list lies in no block of G's. -/
def WQ (V : World) (z : Nat) (n : Int) (L : Nat) (G : Nat → Prop) : Prop := ∃ q : RV, RowQ V z q ∧ q.Ok ∧ q.nw = n ∧ q.fn = n ∧ (∃ l : List F3.Ent, F3.LAt V q.fs l ∧ l.length ≤ L) ∧ ∀ j, q.fs.ownBlock = some j → ¬ G j
/-- What made has in hand. -/
structure MQ (w V : World) (z : Nat) (s : ST) (vw vr vc : Value) (b fb mb g x : Nat) (cs os : Value) (G : Nat → Prop) (m : MS) (L : Nat) : Prop where
  P : MachP V b fb mb g x cs os G m
  q : WQ V z s.n L G
  X : V.heap[w.heap.size]? = some (.cells (srow s vw vr vc) 28 (0, 0))
  z2 : RowQ V (w.heap.size + 1) rzero
  gz : ¬ G z
  gx : ¬ G w.heap.size
  g2 : ¬ G (w.heap.size + 1)
  zx : w.heap.size + 1 < z
  low : ∀ i, G i → w.heap.size ≤ i
  g : Below w.heap.size w V
  t : Tabs w
section
variable {w V V' : World} {z : Nat} {s : ST} {vw vr vc : Value} {b fb mb g x : Nat} {cs os : Value} {G : Nat → Prop} {m : MS} {L : Nat}
theorem lat_same {W W' : World} {v : Value} {l : List F3.Ent} (h : F3.LAt W v l) (k : ∀ j, v.ownBlock = some j → W'.heap[j]? = W.heap[j]?) : F3.LAt W' v l := by
  obtain ⟨h0, h | ⟨g, cap, cur, rfl, hB, hg, hr⟩⟩ := h
  · exact ⟨h0, .inl h⟩
  · exact ⟨h0, .inr ⟨g, cap, cur, rfl, hB, (k g rfl).trans hg, hr⟩⟩
theorem lat_typ {W : World} {v : Value} {l : List F3.Ent} (h : F3.LAt W v l) {j : Nat} (hj : v.ownBlock = some j) : ∃ cur, W.heap[j]? = some (.cells cur 232 (0, 0)) := by
  obtain ⟨h0, h | ⟨g, cap, cur, rfl, hB, hg, hr⟩⟩ := h
  · rw [h.1] at hj; cases hj
  · obtain rfl : g = j := by simpa [Value.ownBlock] using hj
    exact ⟨cur, hg⟩
theorem WQ.lt {n : Int} (h : WQ V z n L G) : z < V.heap.size := by obtain ⟨q, r, _⟩ := h; exact r.lt
/-- Some blocks of the machine turn. -/
theorem WQ.turns {n : Int} {G' : Nat → Prop} (h : WQ V z n L G) (k : Turns G V V') (hz : ¬ G z) (lo : ∀ i, G' i → G i ∨ V.heap.size ≤ i) : WQ V' z n L G' := by
  obtain ⟨q, r, ok, e1, e2, ⟨l, hl, hn⟩, far⟩ := h
  have lt : ∀ j, q.fs.ownBlock = some j → j < V.heap.size := fun j hj => by obtain ⟨cur, hc⟩ := lat_typ hl hj; exact M5.heap_lt hc
  exact ⟨q, k.heap hz r, ok, e1, e2, ⟨l, lat_same hl fun j hj => k.block j (lt j hj) (far j hj), hn⟩, fun j hj e => (lo j e).elim (far j hj) fun h => absurd (lt j hj) (Nat.not_lt.2 h)⟩
theorem MQ.step {b' fb' mb' g' x' : Nat} {cs' os' : Value} {G' : Nat → Prop} {m' : MS} (h : MQ w V z s vw vr vc b fb mb g x cs os G m L) (P' : MachP V' b' fb' mb' g' x' cs' os' G' m') (k : Turns G V V') (lo : ∀ i, G' i → G i ∨ V.heap.size ≤ i) : MQ w V' z s vw vr vc b' fb' mb' g' x' cs' os' G' m' L := by
  have no : ∀ i, i < V.heap.size → ¬ G i → ¬ G' i := fun i hl hn e => (lo i e).elim hn fun h => absurd hl (Nat.not_lt.2 h)
  exact ⟨P', h.q.turns k h.gz lo, k.heap h.gx h.X, k.heap h.g2 h.z2, no z h.q.lt h.gz, no _ (M5.heap_lt h.X) h.gx, no _ h.z2.lt h.g2, h.zx, fun i hi => (lo i hi).elim (h.low i) fun e => Nat.le_trans h.g.size e, Turns.bel h.g k h.low, h.t⟩
theorem MQ.bel (h : MQ w V z s vw vr vc b fb mb g x cs os G m L) (k : Below V.heap.size V V') : MQ w V' z s vw vr vc b fb mb g x cs os G m L := h.step (h.P.bel k) (Turns.of_bel k) fun _ e => .inl e
theorem MQ.only {y : Nat} {m' : MS} (h : MQ w V z s vw vr vc b fb mb g x cs os G m L) (P' : MachP V' b fb mb g x cs os G m') (k : V.grownBy V' (some y)) (hy : G y) : MQ w V' z s vw vr vc b fb mb g x cs os G m' L := h.step P' (Turns.of_only k hy) fun _ e => .inl e
/-- A field of the document's machine is written. -/
theorem MQ.put {q' : RV} {L' : Nat} (h : MQ w V z s vw vr vc b fb mb g x cs os G m L) (r : RowQ V' z q') (k : V.grownBy V' (some z)) (ok : q'.Ok) (e1 : q'.nw = s.n) (e2 : q'.fn = s.n) (hl : ∃ l : List F3.Ent, F3.LAt V q'.fs l ∧ l.length ≤ L') (far : ∀ j, q'.fs.ownBlock = some j → ¬ G j) : MQ w V' z s vw vr vc b fb mb g x cs os G m L' := by
  have T : Turns (fun i => i = z) V V' := Turns.of_only k rfl
  have nt : ∀ i, i = z → ¬ isTab i := fun i e ht => by have h1 := h.t.lt ht; have h2 := h.zx; omega
  have hq := h.q
  obtain ⟨q0, r0, _⟩ := hq
  obtain ⟨l, hl, hn⟩ := hl
  have hl' : F3.LAt V' q'.fs l := lat_same hl fun j hj => k.block j (by obtain ⟨cur, hc⟩ := lat_typ hl hj; exact M5.heap_lt hc) fun e => by
    injection e with e
    obtain ⟨cur, hc⟩ := lat_typ hl hj
    unfold RowQ at r0
    rw [e, r0] at hc
    simp at hc
  exact ⟨h.P.turns T (fun i hi e => h.gz (e ▸ hi)) nt, ⟨q', r, ok, e1, e2, ⟨l, hl', hn⟩, far⟩, only_heap k (by have := h.zx; omega) h.X, only_heap k (by have := h.zx; omega) h.z2, h.gz, h.gx, h.g2, h.zx, h.low, Turns.bel h.g T (fun i e => by have := h.zx; omega), h.t⟩
theorem MQ.cells (h : MQ w V z s vw vr vc b fb mb g x cs os G m L) : V.cell? ⟨w.heap.size, 0, none⟩ = some (.int .i64 s.n) ∧ V.cell? ⟨w.heap.size, 1, none⟩ = some (.int .i64 s.sz) ∧ V.cell? ⟨w.heap.size, 2, none⟩ = some (.int .u32 s.pc) ∧ V.cell? ⟨w.heap.size, 3, none⟩ = some (.int .u8 s.c) ∧ V.cell? ⟨w.heap.size, 4, none⟩ = some (.int .u8 s.p) ∧ V.cell? ⟨w.heap.size, 5, none⟩ = some (.int .u8 s.k) ∧ V.cell? ⟨w.heap.size, 6, none⟩ = some (.int .u8 s.f) ∧ V.cell? ⟨w.heap.size, 7, none⟩ = some (.int .u32 s.wim) ∧ V.cell? ⟨w.heap.size, 8, none⟩ = some vw ∧ V.cell? ⟨w.heap.size, 9, none⟩ = some vr ∧ V.cell? ⟨w.heap.size, 10, none⟩ = some vc :=
  ⟨row_cell h.X rfl, row_cell h.X rfl, row_cell h.X rfl, row_cell h.X rfl, row_cell h.X rfl, row_cell h.X rfl, row_cell h.X rfl, row_cell h.X rfl, row_cell h.X rfl, row_cell h.X rfl, row_cell h.X rfl⟩
theorem Load_any {t : Value} {l : Nat} {f : Nat → Int} (h : MachP V b fb mb g x cs os G m) (hs : Sl .u32 V t l f) (hf : ∀ i, W32 (f i)) :
    Calls Tryz.prog 59 #[.pointer (some ⟨b, 0, none⟩), t] V fun e w' => (∃ er : Int, e = .returned (.int .i64 er)) ∧ MachP w' b fb mb g x cs os G (mPut m l f) ∧ Turns G V w' := by
  by_cases he : spE m.sz 0 l = 0
  · refine (Load_at h hs hf he).mono ?_
    rintro e w' ⟨rfl, P, k⟩
    unfold mPut
    rw [if_pos he]
    exact ⟨⟨_, rfl⟩, P, Turns.of_only k h.gg⟩
  · refine (Load_no h hs he).mono ?_
    rintro e w' ⟨rfl, k⟩
    unfold mPut
    rw [if_neg he]
    exact ⟨⟨_, rfl⟩, h.bel k, Turns.of_bel k⟩
theorem set_any (h : MachP V b fb mb g x cs os G m) (a : RG) (hv : W32 a.v) :
    Calls Tryz.prog 63 #[.pointer (some ⟨fb, 0, none⟩), .int .i64 a.x, .int .i64 a.k, .int .i64 a.r, .int .u32 a.v] V fun e w' => (∃ er : Int, e = .returned (.int .i64 er)) ∧ MachP w' b fb mb g x cs os G (mReg m a) ∧ Turns G V w' := by
  by_cases he : F3.Named m.nw a.x a.k a.r
  · refine (set_yes h a.x a.k a.r a.v hv he).mono ?_
    rintro e w' ⟨rfl, P, k⟩
    unfold mReg
    rw [if_pos he]
    exact ⟨⟨_, rfl⟩, P, Turns.of_only k h.gf⟩
  · refine (set_no h a.x a.k a.r a.v he).mono ?_
    rintro e w' ⟨rfl, rfl⟩
    unfold mReg
    rw [if_neg he]
    exact ⟨⟨_, rfl⟩, h, Turns.refl _ _⟩
theorem mPut_nw (m : MS) (l : Nat) (f : Nat → Int) : (mPut m l f).nw = m.nw ∧ (mPut m l f).sz = m.sz := by unfold mPut; split <;> exact ⟨rfl, rfl⟩
theorem mPsr_nw (m : MS) (c p k f : Int) : (mPsr m c p k f).nw = m.nw := by unfold mPsr; split <;> rfl
theorem mWim_nw (m : MS) (u : Int) : (mWim m u).nw = m.nw := by unfold mWim; split <;> rfl
theorem mReg_nw (m : MS) (a : RG) : (mReg m a).nw = m.nw := by unfold mReg; split <;> rfl
theorem mRegs_nw (m : MS) (A : Nat → RG) : ∀ n, (mRegs m A n).nw = m.nw
  | 0 => rfl
  | n + 1 => by show (mReg (mRegs m A n) (A n)).nw = m.nw; rw [mReg_nw, mRegs_nw m A n]
end
set_option maxRecDepth 100000 in
theorem step_load {ops : Array Oper} {o : Oper} {a : Act} {w : World} {K : Act → World → Prop} {Q : Exit → Act → World → Prop} {E : Prop} (hg : o.guard = none) (x : Operand) (ho : o.op = .load 39 x) (z : Nat) (q : RV) (hx : a.eval x = .pointer (some ⟨z, 0, none⟩)) (hz : RowQ w z q)
    (hK : K (a.put o.dst (.agg (rrow q))) w) : if Region.wanted o (yielded ops a.tmps) = true then Oper.wp Tryz.prog o a w K Q else E := by
  have hw : Region.wanted o (yielded ops a.tmps) = true := by simp [Region.wanted, hg]
  rw [if_pos hw]
  exact wp_load_row _ x ho z hx 39 (rrow q) (0, 0) _ hz rrow_under rfl (rrow_info _) hK
set_option maxRecDepth 100000 in
theorem q_results3 {fn : Func} {tmps : Array Value} {w : World} {z : Nat} {p u : Tmp} {q : RV} (h : fn.results = #[.tmp u, .cell p 39]) (hp : tmps.getD p undef = .pointer (some ⟨z, 0, none⟩)) (hz : RowQ w z q) : (results fn tmps).run Tryz.prog w = .ok (.tuple #[tmps.getD u undef, .agg (rrow q)]) w := by
  have hp' : tmps[p]?.getD undef = .pointer (some ⟨z, 0, none⟩) := by simpa using hp
  simp [results, h, hp', asAddr, run_loadVar_row w z 39 39 (rrow q) (0, 0) _ hz rrow_under rfl (rrow_info _)]
theorem q_ret3 {fn : Func} {R : Ending → World → Prop} {a : Act} {w : World} {z : Nat} {p u : Tmp} {q : RV} (h : fn.results = #[.tmp u, .cell p 39]) (hp : a.tmps.getD p undef = .pointer (some ⟨z, 0, none⟩)) (hz : RowQ w z q) (hd : a.defers = []) (hR : R (.returned (.tuple #[a.tmps.getD u undef, .agg (rrow q)])) w) : bodyPost Tryz.prog fn R .ret a w :=
  bodyPost_ret (q_results3 h hp hz) hd hR
theorem s_one (p : Option Addr) (n c : Nat) : ∀ v ∈ [Value.slice p n c], v.oneCell' = true := by
  intro v hv
  simp at hv
  subst hv
  rfl
end Go.Proofs.YtiobgnelhiadbaaGreatDoor.K6
