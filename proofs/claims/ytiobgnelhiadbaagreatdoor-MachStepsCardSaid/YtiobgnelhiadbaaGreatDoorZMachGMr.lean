/- made (layer 6): the document's machine beside the code's; none of its blocks is one of the code's machine's. -/
import Derived.Test.YtiobgnelhiadbaaGreatDoorZMachGMm
namespace Go.Proofs.YtiobgnelhiadbaaGreatDoor.K6
open Go.RowKit
set_option linter.unusedVariables false
theorem SlT.to {F : Far} {k : IntKind} {t : TypeId} {w w' : World} {s : Value} {n : Nat} {f : Nat → Int} (h : SlT k t w s n f) (hf : @Far.sl F s) (g : Turns F.G w w') : SlT k t w' s n f := by
  obtain ⟨⟨p, c, rfl, hp⟩, hty, hcap⟩ := h
  refine ⟨⟨p, c, rfl, fun hn => ?_⟩, fun b o m c' e hm => ?_, hcap⟩
  · obtain ⟨b, o, rfl, hc⟩ := hp hn
    exact ⟨b, o, rfl, fun i hi => g.cell (hf b o n c rfl hn) (hc i hi)⟩
  · obtain ⟨A, fr, hb⟩ := hty b o m c' e hm
    exact ⟨A, fr, g.heap (hf b o m c' e hm) hb⟩
/-- .. and what was in no block of G's is in none of G''s. -/
theorem SlT.far {F F' : Far} {k : IntKind} {t : TypeId} {w : World} {s : Value} {n : Nat} {f : Nat → Int} (h : SlT k t w s n f) (hf : @Far.sl F s) (lo : ∀ i, F'.G i → F.G i ∨ w.heap.size ≤ i) : @Far.sl F' s := fun b o m c e hm hg => by
  rcases lo b hg with h1 | h1
  · exact hf b o m c e hm h1
  · obtain ⟨A, fr, hb⟩ := h.ty b o m c e hm
    exact absurd (M5.heap_lt hb) (Nat.not_lt.2 h1)
theorem own_to {F : Far} {B k : Nat} {t : TypeId} {w w' : World} {s : Value} {n : Nat} {r : List Value} (h : w.ownsRow B t k s n r) (hf : @Far.own F s) (g : Turns F.G w w') : w'.ownsRow B t k s n r := by
  obtain ⟨h0, h | ⟨x, cap, cur, rfl, hB, hg, hr⟩⟩ := h
  · exact ⟨h0, .inl h⟩
  · exact ⟨h0, .inr ⟨x, cap, cur, rfl, hB, g.heap (hf x rfl) hg, hr⟩⟩
theorem own_far {F F' : Far} {B k : Nat} {t : TypeId} {w : World} {s : Value} {n : Nat} {r : List Value} (h : w.ownsRow B t k s n r) (hf : @Far.own F s) (lo : ∀ i, F'.G i → F.G i ∨ w.heap.size ≤ i) : @Far.own F' s := fun j hj hg => by
  rcases lo j hg with h1 | h1
  · exact hf j hj h1
  · obtain ⟨_, h | ⟨x, cap, cur, rfl, _, hx, _⟩⟩ := h
    · rw [h.1] at hj; cases hj
    · obtain rfl : x = j := by simpa [Value.ownBlock] using hj
      exact absurd (M5.heap_lt hx) (Nat.not_lt.2 h1)
/-- Some blocks of the code's machine turn; it may have other ones. -/
theorem RefAt.to {F F' : Far} {w w' : World} {q : RV} {m : MS} {L : Nat} (h : @RefAt F w q m L) (k : Turns F.G w w') (lo : ∀ i, F'.G i → F.G i ∨ w.heap.size ≤ i) (hB : F'.B ≤ w'.heap.size) : @RefAt F' w' q m L := by
  obtain ⟨a1, a2, ⟨l, hl, hS, hn⟩, a4, a5, a6, a7, a8, a9, a10, a11, a12, a13, a14, a15, a16, f1, f2, f3, f4, f5, f6, _⟩ := h
  exact @RefAt.mk F' _ _ _ _ a1 a2 ⟨l, own_to hl f1 k, hS, hn⟩ (a4.to f2 k) a5 a6 a7 a8 a9 a10 (a11.to f3 k) (a12.to f4 k) (a13.to f5 k) (own_to a14 f6 k) a15 a16 (own_far hl f1 lo) (a4.far f2 lo) (a11.far f3 lo) (a12.far f4 lo) (a13.far f5 lo) (own_far a14 f6 lo) hB
variable [Far]
/-- What made has in hand. -/
structure MR (w V : World) (z : Nat) (s : ST) (vw vr vc : Value) (b fb mb g x : Nat) (cs os : Value) (m mq : MS) (L : Nat) : Prop where
  P : MachP V b fb mb g x cs os Far.G m
  q : ∃ q : RV, RowQ V z q ∧ RefAt V q mq L
  X : V.heap[w.heap.size]? = some (.cells (srow s vw vr vc) 28 (0, 0))
  z2 : RowQ V (w.heap.size + 1) rzero
  gz : ¬ Far.G z
  gx : ¬ Far.G w.heap.size
  g2 : ¬ Far.G (w.heap.size + 1)
  zx : w.heap.size + 1 < z
  low : ∀ i, Far.G i → w.heap.size ≤ i
  g : Below w.heap.size w V
  t : Tabs w
section
variable {w V V' : World} {z : Nat} {s : ST} {vw vr vc : Value} {b fb mb g x : Nat} {cs os : Value} {m mq : MS} {L : Nat}
theorem MR.lt (h : MR w V z s vw vr vc b fb mb g x cs os m mq L) : z < V.heap.size := by obtain ⟨q, r, _⟩ := h.q; exact r.lt
theorem MR.step {b' fb' mb' g' x' : Nat} {cs' os' : Value} {m' : MS} (h : MR w V z s vw vr vc b fb mb g x cs os m mq L) (P' : MachP V' b' fb' mb' g' x' cs' os' Far.G m') (k : Turns Far.G V V') : MR w V' z s vw vr vc b' fb' mb' g' x' cs' os' m' mq L := by
  obtain ⟨q, r, A⟩ := h.q
  exact ⟨P', ⟨q, k.heap h.gz r, A.to k (fun _ e => .inl e) (Nat.le_trans A.low k.size)⟩, k.heap h.gx h.X, k.heap h.g2 h.z2, h.gz, h.gx, h.g2, h.zx, h.low, Turns.bel h.g k h.low, h.t⟩
theorem MR.bel (h : MR w V z s vw vr vc b fb mb g x cs os m mq L) (k : Below V.heap.size V V') : MR w V' z s vw vr vc b fb mb g x cs os m mq L := h.step (h.P.bel k) (Turns.of_bel k)
theorem MR.only {y : Nat} {m' : MS} (h : MR w V z s vw vr vc b fb mb g x cs os m mq L) (P' : MachP V' b fb mb g x cs os Far.G m') (k : V.grownBy V' (some y)) (hy : Far.G y) : MR w V' z s vw vr vc b fb mb g x cs os m' mq L := h.step P' (Turns.of_only k hy)
/-- A field of the document's machine is written. -/
theorem MR.put {q' : RV} {mq' : MS} {L' : Nat} (h : MR w V z s vw vr vc b fb mb g x cs os m mq L) (r : RowQ V' z q') (k : V.grownBy V' (some z)) (A : RefAt V' q' mq' L') : MR w V' z s vw vr vc b fb mb g x cs os m mq' L' := by
  have T : Turns (fun i => i = z) V V' := Turns.of_only k rfl
  have nt : ∀ i, i = z → ¬ isTab i := fun i e ht => by have h1 := h.t.lt ht; have h2 := h.zx; omega
  exact ⟨h.P.turns T (fun i hi e => h.gz (e ▸ hi)) nt, ⟨q', r, A⟩, only_heap k (by have := h.zx; omega) h.X, only_heap k (by have := h.zx; omega) h.z2, h.gz, h.gx, h.g2, h.zx, h.low, Turns.bel h.g T (fun i e => by have := h.zx; omega), h.t⟩
theorem MR.cells (h : MR w V z s vw vr vc b fb mb g x cs os m mq L) : V.cell? ⟨w.heap.size, 0, none⟩ = some (.int .i64 s.n) ∧ V.cell? ⟨w.heap.size, 1, none⟩ = some (.int .i64 s.sz) ∧ V.cell? ⟨w.heap.size, 2, none⟩ = some (.int .u32 s.pc) ∧ V.cell? ⟨w.heap.size, 3, none⟩ = some (.int .u8 s.c) ∧ V.cell? ⟨w.heap.size, 4, none⟩ = some (.int .u8 s.p) ∧ V.cell? ⟨w.heap.size, 5, none⟩ = some (.int .u8 s.k) ∧ V.cell? ⟨w.heap.size, 6, none⟩ = some (.int .u8 s.f) ∧ V.cell? ⟨w.heap.size, 7, none⟩ = some (.int .u32 s.wim) ∧ V.cell? ⟨w.heap.size, 8, none⟩ = some vw ∧ V.cell? ⟨w.heap.size, 9, none⟩ = some vr ∧ V.cell? ⟨w.heap.size, 10, none⟩ = some vc :=
  ⟨row_cell h.X rfl, row_cell h.X rfl, row_cell h.X rfl, row_cell h.X rfl, row_cell h.X rfl, row_cell h.X rfl, row_cell h.X rfl, row_cell h.X rfl, row_cell h.X rfl, row_cell h.X rfl, row_cell h.X rfl⟩
/-- The document's machine is stored. -/
theorem MR.start {V5 : World} {q : RV} {sz : Nat} (P : MachP V b fb mb g x cs os Far.G m) (RA : RefAt V q (mnew s.n sz) 0) (r : RowQ V5 V.heap.size q) (k : Below V.heap.size V V5) (X : V.heap[w.heap.size]? = some (.cells (srow s vw vr vc) 28 (0, 0))) (z2 : RowQ V (w.heap.size + 1) rzero)
    (gw : Below w.heap.size w V) (low : ∀ i, Far.G i → w.heap.size + 2 ≤ i) (t : Tabs w) : MR w V5 V.heap.size s vw vr vc b fb mb g x cs os m (mnew s.n sz) 0 :=
  ⟨P.bel k, ⟨q, r, RA.bel k⟩, bel_heap k X, z2.bel k, fun e => absurd (P.lt _ e) (Nat.lt_irrefl _), fun e => by have := low _ e; omega, fun e => by have := low _ e; omega, z2.lt, fun i hi => by have := low i hi; omega, bel_trans gw k, t⟩
/-- The document's SetPsr is the code's own: which it told. -/
theorem SetPsr_tell (h : MachP V b fb mb g x cs os Far.G m) (c p k f : Int) (hc : P4.Byte c) (hp : P4.Byte p) (hk : P4.Byte k) (hf : P4.Byte f) :
    Calls Tryz.prog 61 #[.pointer (some ⟨b, 0, none⟩), .agg #[.int .u8 c, .int .u8 p, .int .u8 k, .int .u8 f]] V fun e w' => (∃ er : Int, e = .returned (.int .i64 er) ∧ (er = 0 ↔ P4.State c p k f m.nw)) ∧ MachP w' b fb mb g x cs os Far.G (mPsr m c p k f) ∧ Turns Far.G V w' := by
  by_cases he : P4.State c p k f m.nw
  · refine (SetPsr_yes h c p k f hc hp hk hf he).mono ?_
    rintro e w' ⟨rfl, P, k⟩
    unfold mPsr
    rw [if_pos he]
    exact ⟨⟨_, rfl, by simp [he]⟩, P, Turns.of_only k h.gb⟩
  · refine (SetPsr_no h c p k f hc hp hk hf he).mono ?_
    rintro e w' ⟨rfl, k⟩
    unfold mPsr
    rw [if_neg he]
    exact ⟨⟨_, rfl, by simp [he]⟩, h.bel k, Turns.of_bel k⟩
theorem SetWim_tell (h : MachP V b fb mb g x cs os Far.G m) (u : Int) (hu : W32 u) :
    Calls Tryz.prog 62 #[.pointer (some ⟨b, 0, none⟩), .int .u32 u] V fun e w' => (∃ er : Int, e = .returned (.int .i64 er) ∧ (er = 0 ↔ (wx u m.nw).isSome = true)) ∧ MachP w' b fb mb g x cs os Far.G (mWim m u) ∧ Turns Far.G V w' := by
  unfold mWim
  cases he : wx u m.nw with
  | some t =>
    refine (SetWim_yes u h (by rw [he]; rfl)).mono ?_
    rintro e w' ⟨rfl, P, k⟩
    exact ⟨⟨_, rfl, by simp⟩, P, Turns.of_only k h.gb⟩
  | none =>
    refine (SetWim_no u h hu he).mono ?_
    rintro e w' ⟨rfl, k⟩
    exact ⟨⟨_, rfl, by simp⟩, h.bel k, Turns.of_bel k⟩
end
section
variable {w V V' : World} {mq : MS} {L : Nat} {q : RV}
/-- The document's Put. -/
theorem rput_slt (s t : Value) (n l : Nat) (f g : Nat → Int) (a : Nat) (w : World) (hn : n ≤ 4194304) (hs : SlT .u8 5 w s n f) (hfar : Far.sl s) (hlow : Far.B ≤ w.heap.size) (ht : Sl .u32 w t l g) (hg : ∀ i, 0 ≤ g i ∧ g i < 4294967296) (h : spE n a l = 0) :
    Calls Tryz.prog 60 #[s, .int .u32 a, t] w fun e w' => ∃ (p' : Option Addr) (m' c' : Nat), e = .returned (.tuple #[.slice p' m' c', .int .i64 0]) ∧ SlT .u8 5 w' (.slice p' m' c') n (ptB f a g l) ∧ Far.sl (.slice p' m' c') ∧ Below w.heap.size w w' := by
  obtain ⟨_, ha4, han, hal⟩ := spE_ok h
  have HS := Lib.hid hs
  have HFa := Lib.hid hfar
  have HLo := Lib.hid hlow
  obtain ⟨p, c, rfl, _⟩ := hs.sl
  have HL := Lib.hid ht
  obtain ⟨q, d, rfl, _⟩ := ht
  have HT := Lib.hid (fun W => M5.rspan_at p n c a l W hn (by omega) (by omega))
  rw [h] at HT
  have HG := Lib.hid hg
  clear hg h hs hfar hlow
  go_enter Tryz.func60, Tryz.ntmps60
  go_wp2_with fail
  refine (HT.out _).mono ?_; rintro e w1 ⟨rfl, rfl⟩
  clear HT
  go_wp2_with fail
  go_loopw [0, 9] (fun s i wr => ∃ k : Nat, k ≤ l ∧ i = .int .i64 k ∧ SlT .u8 5 wr s n (ptB f a g k) ∧ Far.sl s ∧ Below w.heap.size w wr) (fun _ i _ => l - (intOf i).toNat)
  case atStart => exact ⟨0, by omega, rfl, HS.out, HFa.out, Below.refl _ _⟩
  case round =>
    clear HS HFa
    obtain ⟨k, hk, rfl, hs, hfa, hx⟩ := hrel
    by_cases hlt : k < l
    · obtain ⟨q', d', hq, hcs⟩ := HL.out
      obtain ⟨rfl, rfl⟩ : q = q' ∧ d = d' := by simp only [Value.slice.injEq, true_and] at hq; exact hq
      obtain ⟨b, o, rfl, hcc⟩ := hcs (by omega)
      have hc := bel_cell hx (hcc k hlt)
      have HSt : Hid (∀ (W : World) (x : Value), Sl .u8 W x n (ptB f a g k) → Calls Tryz.prog 125 #[x, .int .u32 ((a : Int) + 4 * (k : Int)), .int .i64 4, .int .u32 (g k)] W fun e w' => ∃ s', e = .returned (.tuple #[s', .int .i64 0]) ∧ w'.ownsRow W.heap.size 5 1 s' n (bsL .u8 (ptB f a g (k + 1)) n) ∧ Below W.heap.size W w') := fun W x h => by
        have := M5.rstore_yes x n (ptB f a g k) (a + 4 * k) 4 (g k) W hn h (HG.out k) (by unfold thE; rw [if_neg (by omega), if_neg (by omega), if_neg (by omega)])
        rw [show ((a + 4 * k : Nat) : Int) = (a : Int) + 4 * (k : Int) by omega] at this
        exact this
      have hk4 : 4 * (k : Int) < 4194304 := by omega
      have hak : (a : Int) + 4 * (k : Int) < 4194304 := by omega
      have hkl : (k : Int) < l := by omega
      have hk32 : (k : Int) < 4294967296 := by omega
      have HH := Lib.hid hs.sl
      have HB : Hid (Far.B ≤ wr.heap.size) := Nat.le_trans HLo.out hx.size
      clear hs hfa hcs hq hcc
      go_wp2_with fail
      refine (HSt.out _ _ HH.out).mono ?_; rintro e w2 ⟨s2, rfl, own2, g2⟩
      have S2 := Lib.hid (own_slt own2)
      have F2 := Lib.hid (far_row own2 HB.out).2
      have G2 := bel_trans hx g2
      clear own2 g2 HSt HH hx HB
      go_wp2_with fail
      go_roundw
      case rel => exact ⟨k + 1, by omega, by go_num, S2.out, F2.out, G2⟩
      case measure => simp [intOf]; omega
    · obtain rfl : k = l := by omega
      have HH := Lib.hid hs
      have HF2 := Lib.hid hfa
      obtain ⟨p2, c2, rfl, _⟩ := hs.sl
      clear hs hfa
      go_wp2_with fail
      go_ret2
      exact ⟨_, _, _, rfl, HH.out, HF2.out, hx⟩
/-- .. of words that may be too many. -/
theorem mput_ref {t : Value} {l : Nat} {f : Nat → Int} (hA : RefAt w q mq L) (hsz : mq.sz ≤ 4194304) (ht : Sl .u32 w t l f) (hf : ∀ i, W32 (f i)) (hl : l ≤ 1000000) :
    Calls Tryz.prog 60 #[q.ms, .int .u32 0, t] w fun e w' => ∃ (er : Int) (p' : Option Addr) (m' c' : Nat), e = .returned (.tuple #[.slice p' m' c', .int .i64 er]) ∧ RefAt w' { q with ms := .slice p' m' c' } (mPut mq l f) L ∧ Below w.heap.size w w' := by
  by_cases he : spE mq.sz 0 l = 0
  · refine (rput_slt q.ms t mq.sz l mq.f f 0 w hsz hA.mem hA.fms hA.low ht hf he).mono ?_
    rintro e w' ⟨p', m', c', rfl, S, F, g'⟩
    unfold mPut
    rw [if_pos he]
    exact ⟨_, p', m', c', rfl, { hA.bel g' with mem := S, fms := F }, g'⟩
  · obtain ⟨p, c, hs, _⟩ := hA.mem.sl
    obtain ⟨pt, ct, rfl, _⟩ := ht
    rw [hs]
    refine (M5.rput_no p mq.sz c 0 pt l ct w hsz ⟨by decide, by decide⟩ (by omega) he).mono ?_
    rintro e w' ⟨rfl, rfl⟩
    unfold mPut
    rw [if_neg he]
    refine ⟨_, p, _, c, rfl, ?_, Below.refl _ _⟩
    rw [← hs]
    exact hA
/-- The document's Set. -/
theorem mset_ref (a : RG) (hA : RefAt w q mq L) (h2 : 2 ≤ mq.nw) (h32 : mq.nw ≤ 32) (hL : L ≤ 900) :
    Calls Tryz.prog 64 #[.agg #[.int .i64 mq.nw, q.fs], .int .i64 a.x, .int .i64 a.k, .int .i64 a.r, .int .u32 a.v] w fun e w' => ∃ (er : Int) (p' : Option Addr) (m' c' : Nat), e = .returned (.tuple #[.agg #[.int .i64 mq.nw, .slice p' m' c'], .int .i64 er]) ∧ RefAt w' { q with fs := .slice p' m' c' } (mReg mq a) (L + 1) ∧ Below w.heap.size w w' := by
  obtain ⟨l, hl, hS, hlen⟩ := hA.file
  obtain ⟨p, c, hs, _⟩ := hl.form
  by_cases h : F3.Named mq.nw a.x a.k a.r
  · rw [hs] at hl ⊢
    refine (F3.refSet_at mq.nw a.x a.k a.r a.v p l.length c l w h2 h32 (by omega) hl h).mono ?_
    rintro e w' ⟨s', rfl, hL', g'⟩
    obtain ⟨p', c', e, _⟩ := hL'.at.form
    subst e
    unfold mReg
    rw [if_pos h]
    exact ⟨_, p', _, c', rfl, { hA.bel g' with file := ⟨_, hL'.at, F3.step_set hS h32 h a.v, by simp; omega⟩, ffs := (far_row hL' hA.low).1 }, g'⟩
  · rw [hs]
    refine (F3.refSet_bad mq.nw a.x a.k a.r a.v p l.length c w h).mono ?_
    rintro e w' ⟨rfl, g'⟩
    unfold mReg
    rw [if_neg h]
    refine ⟨_, p, l.length, c, rfl, ?_, g'⟩
    rw [← hs]
    exact (hA.bel g').more (Nat.le_succ _)
end
end Go.Proofs.YtiobgnelhiadbaaGreatDoor.K6
