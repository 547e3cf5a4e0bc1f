/- made (layer 10), walked: the machine ahead of a yield, or an end. -/
import Derived.Test.YtiobgnelhiadbaaGreatDoorVSwapGC
import Derived.Test.YtiobgnelhiadbaaGreatDoorVSwapGE
import Derived.Test.YtiobgnelhiadbaaGreatDoorVWindGU
import Derived.Test.YtiobgnelhiadbaaGreatDoorVAsmG
namespace Go.Proofs.YtiobgnelhiadbaaGreatDoor.S10
open Go.RowKit K6
open A7 (XI XB AS AJ fin)
open W8 (catL gX gX_mem frL sFr sBr)
set_option linter.unusedVariables false
/-! The handlers' words. -/
theorem fin_some (ms : List (ByteArray × Nat)) : ∀ (js : List AJ) (f : Nat → Int), (∀ j ∈ js, ∃ t, A7.look ms j.nm = some t) → js.Pairwise (fun a b => a.pos ≠ b.pos) →
    ∃ g, fin ms js f = some g ∧ (∀ p, (∀ j ∈ js, j.pos ≠ p) → g p = f p) ∧ (∀ j ∈ js, ∀ t, A7.look ms j.nm = some t → g j.pos = j.word t)
  | [], f, _, _ => ⟨f, rfl, fun _ _ => rfl, fun j hj => by cases hj⟩
  | j :: l, f, h, hp => by
    obtain ⟨t, ht⟩ := h j (by simp)
    obtain ⟨hp1, hp2⟩ := List.pairwise_cons.1 hp
    obtain ⟨g, e1, e2, e3⟩ := fin_some ms l (F3.upd f j.pos (j.word t)) (fun i hi => h i (by simp [hi])) hp2
    refine ⟨g, by rw [fin, ht]; exact e1, fun p hh => ?_, fun i hi u hu => ?_⟩
    · rw [e2 p fun i hi => hh i (by simp [hi])]
      exact F3.upd_ne _ _ (fun e => hh j (by simp) e.symm)
    · rcases List.mem_cons.1 hi with rfl | hi
      · rw [ht] at hu
        cases hu
        rw [e2 _ fun k hk e => hp1 k hk e.symm]
        exact F3.upd_same _ _ _
      · exact e3 i hi u hu
theorem mL_look {l : List (ByteArray × Nat)} (n : Nat) : A7.look (l ++ mL n) sEnd = some (n + 0) ∧ A7.look (l ++ mL n) sYield = some (n + 4) ∧ A7.look (l ++ mL n) sStore = some (n + 7) ∧ A7.look (l ++ mL n) sStored = some (n + 31) ∧ A7.look (l ++ mL n) sSwap = some (n + 39) ∧ A7.look (l ++ mL n) sCount = some (n + 43) ∧ A7.look (l ++ mL n) sFind = some (n + 56) ∧ A7.look (l ++ mL n) sIt = some (n + 62) := by
  have e : l ++ mL n = ((((((((l ++ [(sEnd, n + 0)]) ++ [(sYield, n + 4)]) ++ [(sStore, n + 7)]) ++ [(sStored, n + 31)]) ++ [(sSwap, n + 39)]) ++ [(sCount, n + 43)]) ++ [(sFind, n + 56)]) ++ [(sIt, n + 62)]) := by simp [mL]
  rw [e]
  refine ⟨?_, ?_, ?_, ?_, ?_, ?_, ?_, ?_⟩ <;> simp only [A7.look_snoc] <;> simp [show ¬ sIt = sEnd by decide, show ¬ sFind = sEnd by decide, show ¬ sCount = sEnd by decide, show ¬ sSwap = sEnd by decide, show ¬ sStored = sEnd by decide, show ¬ sStore = sEnd by decide, show ¬ sYield = sEnd by decide, show ¬ sIt = sYield by decide, show ¬ sFind = sYield by decide, show ¬ sCount = sYield by decide, show ¬ sSwap = sYield by decide, show ¬ sStored = sYield by decide, show ¬ sStore = sYield by decide, show ¬ sIt = sStore by decide, show ¬ sFind = sStore by decide, show ¬ sCount = sStore by decide, show ¬ sSwap = sStore by decide, show ¬ sStored = sStore by decide, show ¬ sIt = sStored by decide, show ¬ sFind = sStored by decide, show ¬ sCount = sStored by decide, show ¬ sSwap = sStored by decide, show ¬ sIt = sSwap by decide, show ¬ sFind = sSwap by decide, show ¬ sCount = sSwap by decide, show ¬ sIt = sCount by decide, show ¬ sFind = sCount by decide, show ¬ sIt = sFind by decide]
/-- Which instruction a jump is when it is complete. -/
theorem jw (n p t : Nat) (c x : Int) (s : ByteArray) (h : (t : Int) - p = x) (hw : I2.enc 17 c 0 0 true x = (bI c x).word) : (⟨n + p, 17, c, s⟩ : AJ).word (n + t) = (bI c x).word := by
  rw [← hw]
  show I2.enc 17 c 0 0 true (((n + t : Nat) : Int) - ((n + p : Nat) : Int)) = I2.enc 17 c 0 0 true x
  congr 1; omega
theorem gX_set {L : List XI} {k i : Nat} {x : XI} (h : i ≠ k) : gX (L.set k x) i = gX L i := by
  unfold gX
  rw [List.getD_eq_getElem?_getD, List.getD_eq_getElem?_getD, List.getElem?_set_ne (Ne.symm h)]
theorem zJ_set (nw : Int) : zJ nw = ((((((zL nw).set 3 (bI 0 0)).set 10 (bI 1 0)).set 30 (bI 0 0)).set 47 (bI 5 0)).set 59 (bI 3 0)).set 61 (bI 0 0) := rfl
theorem zJ_is (nw : Int) {i : Nat} (h : ¬ (i = 3 ∨ i = 10 ∨ i = 30 ∨ i = 47 ∨ i = 59 ∨ i = 61)) : gX (zJ nw) i = gX (zL nw) i := by
  rw [zJ_set, gX_set (by omega), gX_set (by omega), gX_set (by omega), gX_set (by omega), gX_set (by omega), gX_set (by omega)]
theorem un_rep (n : Nat) (hn : n ≤ 300) (q : AS) (e1 : q.n = n) (e2 : q.ms = []) : Un q := ⟨by rw [e1]; omega, by rw [e2]; decide, fun s _ => by rw [e2]; rfl⟩
section
variable {nw : Int} {q : AS} (h2 : 2 ≤ nw) (h32 : nw ≤ 32) (u : Un q) (hj : q.js = [])
include h2 h32 u hj
theorem hq_words : ∃ f, (hq nw q 12).words = some f ∧ (hq nw q 12).n = q.n + 94 ∧ (∀ i, i < 94 → f (q.n + i) = (gX (zL nw) i).word) ∧ ∀ i, i < q.n → f i = q.ws i := by
  obtain ⟨_, _, _, _, _, _, _, _, _, _, _, _, S⟩ := hq_all h2 h32 u
  have el : (zJ nw).length = 94 := rfl
  obtain ⟨m1, m2, m3, m4, m5, m6, m7, m8⟩ := mL_look (l := q.ms) q.n
  have ej : (hq nw q 12).js = jL q.n := by rw [S.js, hj]; rfl
  obtain ⟨g, e1, e2, e3⟩ := fin_some (q.ms ++ mL q.n) (jL q.n) (hq nw q 12).ws (fun j hj => by
    simp only [jL, List.mem_cons, List.not_mem_nil, or_false] at hj
    rcases hj with rfl | rfl | rfl | rfl | rfl | rfl
    · exact ⟨_, m5⟩
    · exact ⟨_, m4⟩
    · exact ⟨_, m3⟩
    · exact ⟨_, m6⟩
    · exact ⟨_, m8⟩
    · exact ⟨_, m7⟩) (by simp [jL])
  have jm : ∀ p, (p = 3 ∨ p = 10 ∨ p = 30 ∨ p = 47 ∨ p = 59 ∨ p = 61) ∨ ∀ j ∈ jL q.n, j.pos ≠ q.n + p := fun p => by
    by_cases hp : p = 3 ∨ p = 10 ∨ p = 30 ∨ p = 47 ∨ p = 59 ∨ p = 61
    · exact .inl hp
    · right
      intro j hj
      simp only [jL, List.mem_cons, List.not_mem_nil, or_false] at hj
      rcases hj with rfl | rfl | rfl | rfl | rfl | rfl <;> simp only <;> omega
  refine ⟨g, by unfold AS.words; rw [S.ms, ej]; exact e1, by rw [S.n, el], fun i hi => ?_, fun i hi => ?_⟩
  · rcases jm i with (rfl | rfl | rfl | rfl | rfl | rfl) | hn
    · exact (e3 ⟨q.n + 3, 17, 0, sSwap⟩ (by simp [jL]) _ m5).trans <| jw q.n 3 39 0 36 _ (by decide) (by kernel_rfl)
    · exact (e3 ⟨q.n + 10, 17, 1, sStored⟩ (by simp [jL]) _ m4).trans <| jw q.n 10 31 1 21 _ (by decide) (by kernel_rfl)
    · exact (e3 ⟨q.n + 30, 17, 0, sStore⟩ (by simp [jL]) _ m3).trans <| jw q.n 30 7 0 (-23) _ (by decide) (by kernel_rfl)
    · exact (e3 ⟨q.n + 47, 17, 5, sCount⟩ (by simp [jL]) _ m6).trans <| jw q.n 47 43 5 (-4) _ (by decide) (by kernel_rfl)
    · exact (e3 ⟨q.n + 59, 17, 3, sIt⟩ (by simp [jL]) _ m8).trans <| jw q.n 59 62 3 3 _ (by decide) (by kernel_rfl)
    · exact (e3 ⟨q.n + 61, 17, 0, sFind⟩ (by simp [jL]) _ m7).trans <| jw q.n 61 56 0 (-5) _ (by decide) (by kernel_rfl)
    · rw [e2 _ hn, S.ws i (by rw [el]; exact hi)]
      rw [zJ_is nw fun e => by
        rcases e with rfl | rfl | rfl | rfl | rfl | rfl
        · exact hn ⟨q.n + 3, 17, 0, sSwap⟩ (by simp [jL]) rfl
        · exact hn ⟨q.n + 10, 17, 1, sStored⟩ (by simp [jL]) rfl
        · exact hn ⟨q.n + 30, 17, 0, sStore⟩ (by simp [jL]) rfl
        · exact hn ⟨q.n + 47, 17, 5, sCount⟩ (by simp [jL]) rfl
        · exact hn ⟨q.n + 59, 17, 3, sIt⟩ (by simp [jL]) rfl
        · exact hn ⟨q.n + 61, 17, 0, sFind⟩ (by simp [jL]) rfl]
  · rw [e2 _ fun j hj e => by
      simp only [jL, List.mem_cons, List.not_mem_nil, or_false] at hj
      rcases hj with rfl | rfl | rfl | rfl | rfl | rfl <;> simp only at e <;> omega]
    exact S.old i hi
theorem hq_at : A7.look (hq nw q 12).ms sYield = some (q.n + 4) ∧ A7.look (hq nw q 12).ms sEnd = some (q.n + 0) := by
  obtain ⟨_, _, _, _, _, _, _, _, _, _, _, _, S⟩ := hq_all h2 h32 u
  obtain ⟨m1, m2, _⟩ := mL_look (l := q.ms) q.n
  rw [S.ms]
  have _ := hj
  exact ⟨m2, m1⟩
end
/-- A case as it lies in world w, by value. -/
structure TCAt (w : World) (s : TC) (vr vf : Value) : Prop where
  rr : Sl .u32 w vr s.lr s.rg
  rf : Sl .u16 w vf s.lf s.fr
theorem TCAt.bel {w w' : World} {s : TC} {vr vf : Value} (h : TCAt w s vr vf) (k : Below w.heap.size w w') : TCAt w' s vr vf := ⟨h.rr.bel k, h.rf.bel k⟩
def zrow (s : TC) (vr vf : Value) : Array Value := #[.int .i64 s.nw, .int .i64 s.c, .int .i64 s.iv, vr, vf, .int .i64 s.th, .int .i64 s.ru, .bool (s.al 0), .bool (s.al 1), .bool (s.al 2), .bool (s.al 3), .int .u16 (s.sk 0), .int .u16 (s.sk 1), .int .u16 (s.sk 2), .int .u16 (s.sk 3), .int .u32 s.ch, .int .u8 s.fl, .int .u8 s.pl, .int .u32 s.fill, .bool s.en]
/-- What made has in hand. -/
structure ZM (w V : World) (s : TC) (vr vf : Value) (b fb mb g x : Nat) (cs os : Value) (G : Nat → Prop) (m : MS) : Prop where
  P : MachP V b fb mb g x cs os G m
  X : V.heap[w.heap.size]? = some (.cells (zrow s vr vf) 54 (0, 0))
  gx : ¬ G w.heap.size
  low : ∀ i, G i → w.heap.size ≤ i
  g : Below w.heap.size w V
section
variable {w V V' : World} {s : TC} {vr vf : Value} {b fb mb g x : Nat} {cs os : Value} {G : Nat → Prop} {m m' : MS}
theorem ZM.bel (h : ZM w V s vr vf b fb mb g x cs os G m) (k : Below V.heap.size V V') : ZM w V' s vr vf b fb mb g x cs os G m := ⟨h.P.bel k, bel_heap k h.X, h.gx, h.low, bel_trans h.g k⟩
theorem ZM.only {y : Nat} (h : ZM w V s vr vf b fb mb g x cs os G m) (P' : MachP V' b fb mb g x cs os G m') (k : V.grownBy V' (some y)) (hy : G y) : ZM w V' s vr vf b fb mb g x cs os G m' :=
  ⟨P', only_heap k (fun e => h.gx (by rw [e]; exact hy)) h.X, h.gx, h.low, only_bel h.g k (h.low _ hy)⟩
theorem ZM.turns {H : Nat → Prop} (h : ZM w V s vr vf b fb mb g x cs os G m) (k : Turns H V V') (hd : ∀ i, G i → ¬ H i) (ht : ∀ i, H i → ¬ isTab i) (hl : ∀ i, H i → w.heap.size ≤ i) (hx : ¬ H w.heap.size) : ZM w V' s vr vf b fb mb g x cs os G m :=
  ⟨h.P.turns k hd ht, k.heap hx h.X, h.gx, h.low, Turns.bel h.g k hl⟩
theorem ZM.choose {x' : Nat} {cs' : Value} {G' : Nat → Prop} (h : ZM w V s vr vf b fb mb g x cs os G m) (P' : MachP V' b fb mb g x' cs' os G' m') (k : Turns G V V') (hlo : ∀ i, G' i → G i ∨ V.heap.size ≤ i) : ZM w V' s vr vf b fb mb g x' cs' os G' m' :=
  ⟨P', k.heap h.gx h.X, fun e => (hlo _ e).elim h.gx fun e => absurd (A7.heap_lt h.X) (Nat.not_lt.2 e), fun i hi => (hlo i hi).elim (h.low i) fun e => Nat.le_trans h.g.size e, Turns.bel h.g k h.low⟩
theorem ZM.c0 (h : ZM w V s vr vf b fb mb g x cs os G m) : V.cell? ⟨w.heap.size, 0, none⟩ = some (.int .i64 s.nw) := row_cell h.X rfl
theorem ZM.c1 (h : ZM w V s vr vf b fb mb g x cs os G m) : V.cell? ⟨w.heap.size, 1, none⟩ = some (.int .i64 s.c) := row_cell h.X rfl
theorem ZM.c2 (h : ZM w V s vr vf b fb mb g x cs os G m) : V.cell? ⟨w.heap.size, 2, none⟩ = some (.int .i64 s.iv) := row_cell h.X rfl
theorem ZM.c3 (h : ZM w V s vr vf b fb mb g x cs os G m) : V.cell? ⟨w.heap.size, 3, none⟩ = some (vr) := row_cell h.X rfl
theorem ZM.c4 (h : ZM w V s vr vf b fb mb g x cs os G m) : V.cell? ⟨w.heap.size, 4, none⟩ = some (vf) := row_cell h.X rfl
theorem ZM.c5 (h : ZM w V s vr vf b fb mb g x cs os G m) : V.cell? ⟨w.heap.size, 5, none⟩ = some (.int .i64 s.th) := row_cell h.X rfl
theorem ZM.c6 (h : ZM w V s vr vf b fb mb g x cs os G m) : V.cell? ⟨w.heap.size, 6, none⟩ = some (.int .i64 s.ru) := row_cell h.X rfl
theorem ZM.c7 (h : ZM w V s vr vf b fb mb g x cs os G m) : V.cell? ⟨w.heap.size, 7, none⟩ = some (.bool (s.al 0)) := row_cell h.X rfl
theorem ZM.c8 (h : ZM w V s vr vf b fb mb g x cs os G m) : V.cell? ⟨w.heap.size, 8, none⟩ = some (.bool (s.al 1)) := row_cell h.X rfl
theorem ZM.c9 (h : ZM w V s vr vf b fb mb g x cs os G m) : V.cell? ⟨w.heap.size, 9, none⟩ = some (.bool (s.al 2)) := row_cell h.X rfl
theorem ZM.c10 (h : ZM w V s vr vf b fb mb g x cs os G m) : V.cell? ⟨w.heap.size, 10, none⟩ = some (.bool (s.al 3)) := row_cell h.X rfl
theorem ZM.c11 (h : ZM w V s vr vf b fb mb g x cs os G m) : V.cell? ⟨w.heap.size, 11, none⟩ = some (.int .u16 (s.sk 0)) := row_cell h.X rfl
theorem ZM.c12 (h : ZM w V s vr vf b fb mb g x cs os G m) : V.cell? ⟨w.heap.size, 12, none⟩ = some (.int .u16 (s.sk 1)) := row_cell h.X rfl
theorem ZM.c13 (h : ZM w V s vr vf b fb mb g x cs os G m) : V.cell? ⟨w.heap.size, 13, none⟩ = some (.int .u16 (s.sk 2)) := row_cell h.X rfl
theorem ZM.c14 (h : ZM w V s vr vf b fb mb g x cs os G m) : V.cell? ⟨w.heap.size, 14, none⟩ = some (.int .u16 (s.sk 3)) := row_cell h.X rfl
theorem ZM.c15 (h : ZM w V s vr vf b fb mb g x cs os G m) : V.cell? ⟨w.heap.size, 15, none⟩ = some (.int .u32 s.ch) := row_cell h.X rfl
theorem ZM.c16 (h : ZM w V s vr vf b fb mb g x cs os G m) : V.cell? ⟨w.heap.size, 16, none⟩ = some (.int .u8 s.fl) := row_cell h.X rfl
theorem ZM.c17 (h : ZM w V s vr vf b fb mb g x cs os G m) : V.cell? ⟨w.heap.size, 17, none⟩ = some (.int .u8 s.pl) := row_cell h.X rfl
theorem ZM.c18 (h : ZM w V s vr vf b fb mb g x cs os G m) : V.cell? ⟨w.heap.size, 18, none⟩ = some (.int .u32 s.fill) := row_cell h.X rfl
theorem ZM.c19 (h : ZM w V s vr vf b fb mb g x cs os G m) : V.cell? ⟨w.heap.size, 19, none⟩ = some (.bool s.en) := row_cell h.X rfl
end
/-- The machine so far: its memory, its registers. -/
def mK8 (nw : Int) (f R : Nat → Int) : MS := { mnew nw 8192 with f := f, R := R }
theorem th_80 {a : Int} (h0 : 0 ≤ a) (h : a % 4 = 0) (h1 : a + 4 ≤ 8192) : thE (8192 : Nat) a 4 = 0 := th_w h0 h (by omega)
theorem own_turns {G : Nat → Prop} {w W : World} {B n : Nat} {s : Value} {f : Nat → Int} (h : w.ownsRow B 22 1 s n (bsL .u32 f n)) (T : Turns G w W) (hG : ∀ i, G i → i < B) : W.ownsRow B 22 1 s n (bsL .u32 f n) :=
  A7.own_same h fun j hj => by
    obtain ⟨cur, hc⟩ := A7.own_typ h hj
    exact T.block j (A7.heap_lt hc) fun e => absurd (hG j e) (Nat.not_lt.2 (World.ownsRow.lt h j hj).1)
theorem fT_1 (s : TC) : ptB (s.fT 0) 64 (s.blk 0) 4 = s.fT 1 := rfl
theorem SL_0 (s : TC) (W : World) (ty : TypeId) : Sl .u32 (W.alloc (.cells #[.int .u32 1700, .int .u32 (frm (s.sk 0)), .int .u32 5000, .int .u32 (s.ai 0)] ty)) (.slice (some ⟨W.heap.size, 0, none⟩) 4 4) 4 (s.blk 0) :=
  ⟨_, _, rfl, fun _ => ⟨_, 0, rfl, fun i hi => by
    rcases (by omega : i = 0 ∨ i = 1 ∨ i = 2 ∨ i = 3) with rfl | rfl | rfl | rfl
    · exact row_cell (heap_alloc_last _ _) rfl
    · exact row_cell (heap_alloc_last _ _) rfl
    · exact row_cell (heap_alloc_last _ _) rfl
    · exact row_cell (heap_alloc_last _ _) rfl⟩⟩
theorem fT_2 (s : TC) : ptB (s.fT 1) 80 (s.blk 1) 4 = s.fT 2 := rfl
theorem SL_1 (s : TC) (W : World) (ty : TypeId) : Sl .u32 (W.alloc (.cells #[.int .u32 1704, .int .u32 (frm (s.sk 1)), .int .u32 5001, .int .u32 (s.ai 1)] ty)) (.slice (some ⟨W.heap.size, 0, none⟩) 4 4) 4 (s.blk 1) :=
  ⟨_, _, rfl, fun _ => ⟨_, 0, rfl, fun i hi => by
    rcases (by omega : i = 0 ∨ i = 1 ∨ i = 2 ∨ i = 3) with rfl | rfl | rfl | rfl
    · exact row_cell (heap_alloc_last _ _) rfl
    · exact row_cell (heap_alloc_last _ _) rfl
    · exact row_cell (heap_alloc_last _ _) rfl
    · exact row_cell (heap_alloc_last _ _) rfl⟩⟩
theorem fT_3 (s : TC) : ptB (s.fT 2) 96 (s.blk 2) 4 = s.fT 3 := rfl
theorem SL_2 (s : TC) (W : World) (ty : TypeId) : Sl .u32 (W.alloc (.cells #[.int .u32 1708, .int .u32 (frm (s.sk 2)), .int .u32 5002, .int .u32 (s.ai 2)] ty)) (.slice (some ⟨W.heap.size, 0, none⟩) 4 4) 4 (s.blk 2) :=
  ⟨_, _, rfl, fun _ => ⟨_, 0, rfl, fun i hi => by
    rcases (by omega : i = 0 ∨ i = 1 ∨ i = 2 ∨ i = 3) with rfl | rfl | rfl | rfl
    · exact row_cell (heap_alloc_last _ _) rfl
    · exact row_cell (heap_alloc_last _ _) rfl
    · exact row_cell (heap_alloc_last _ _) rfl
    · exact row_cell (heap_alloc_last _ _) rfl⟩⟩
theorem fT_4 (s : TC) : ptB (s.fT 3) 112 (s.blk 3) 4 = s.fT 4 := rfl
theorem SL_3 (s : TC) (W : World) (ty : TypeId) : Sl .u32 (W.alloc (.cells #[.int .u32 1712, .int .u32 (frm (s.sk 3)), .int .u32 5003, .int .u32 (s.ai 3)] ty)) (.slice (some ⟨W.heap.size, 0, none⟩) 4 4) 4 (s.blk 3) :=
  ⟨_, _, rfl, fun _ => ⟨_, 0, rfl, fun i hi => by
    rcases (by omega : i = 0 ∨ i = 1 ∨ i = 2 ∨ i = 3) with rfl | rfl | rfl | rfl
    · exact row_cell (heap_alloc_last _ _) rfl
    · exact row_cell (heap_alloc_last _ _) rfl
    · exact row_cell (heap_alloc_last _ _) rfl
    · exact row_cell (heap_alloc_last _ _) rfl⟩⟩
theorem SL_one (W : World) (v : Int) : SlP (W.alloc (.cells #[.int .u32 v] 22)) (.slice (some ⟨W.heap.size, 0, none⟩) 1 1) 1 (fun _ => v) :=
  .inr ⟨_, _, rfl, fun _ => ⟨_, 0, rfl, fun i hi => by
    obtain rfl : i = 0 := by omega
    exact row_cell (heap_alloc_last _ _) rfl⟩⟩
theorem frame_at (n : Int) (W : World) (h : 0 ≤ n ∧ n < 65536) : Calls Tryz.prog 88 #[.int .u16 n] W fun e w' => e = .returned (.int .u32 (frm n)) ∧ w' = W := by
  obtain ⟨h0, h1⟩ := h
  have e1 : IntKind.u32.wrap n = n := IntWalk.u32_in _ (by omega)
  have e2 : Int.tmod n 1520 = n % 1520 := Int.tmod_eq_emod_of_nonneg h0
  have b1 := Int.emod_nonneg n (b := 1520) (by decide)
  have b2 := Int.emod_lt_of_pos n (b := 1520) (by decide)
  have e3 : IntKind.u32.wrap (n % 1520 * 4) = n % 1520 * 4 := IntWalk.u32_in _ (by omega)
  have e4 : IntKind.u32.wrap (2048 + n % 1520 * 4) = 2048 + n % 1520 * 4 := IntWalk.u32_in _ (by omega)
  go_enter Tryz.func88, Tryz.ntmps88
  go_wp2
  go_ret
  exact ⟨rfl, rfl⟩
set_option maxRecDepth 100000 in
set_option maxHeartbeats 16000000 in
theorem zmade_at {w : World} (s : TC) {vr vf : Value} (hM : s.May) (hB : TCB s) (hC : TCAt w s vr vf) (hT : Tabs w) :
    Calls Tryz.prog 20 #[.agg (zrow s vr vf)] w fun e w' => ∃ b G, e = .returned (.pointer (some ⟨b, 0, none⟩)) ∧ MachB w' b G (mZ s) ∧ Below w.heap.size w w' ∧ ∀ i, G i → w.heap.size ≤ i := by
  obtain ⟨pr, cr, rfl, hcr⟩ := id hC.rr
  obtain ⟨pf, cf, rfl, hcf⟩ := id hC.rf
  have h2 := hM.n2
  have h32 := hM.n32
  have hX : Hid ((w.alloc (.cells (zrow s (.slice pr s.lr cr) (.slice pf s.lf cf)) 54)).heap[w.heap.size]? = some (.cells (zrow s (.slice pr s.lr cr) (.slice pf s.lf cf)) 54 (0, 0))) := heap_alloc_last _ _
  have gX : Hid (Below w.heap.size w (w.alloc (.cells (zrow s (.slice pr s.lr cr) (.slice pf s.lf cf)) 54))) := bel_alK (Below.refl _ _)
  have sX : Hid (w.heap.size < (w.alloc (.cells (zrow s (.slice pr s.lr cr) (.slice pf s.lf cf)) 54)).heap.size) := by unfold Hid; simp
  have HM := Lib.hid hM
  have HB := Lib.hid hB
  have HT := Lib.hid (hT.bel gX.out)
  have HR : Hid (0 < s.lr → ∃ z o, pr = some ⟨z, o, none⟩ ∧ ∀ W, Below w.heap.size w W → ∀ i, i < s.lr → W.cell? ⟨z, o + i, none⟩ = some (.int .u32 (s.rg i))) := fun hn => by
    obtain ⟨z, o, e, hc⟩ := hcr hn
    exact ⟨z, o, e, fun W k i hi => bel_cell k (hc i hi)⟩
  have HF : Hid (0 < s.lf → ∃ z o, pf = some ⟨z, o, none⟩ ∧ ∀ W, Below w.heap.size w W → ∀ i, i < s.lf → W.cell? ⟨z, o + i, none⟩ = some (.int .u16 (s.fr i))) := fun hn => by
    obtain ⟨z, o, e, hc⟩ := hcf hn
    exact ⟨z, o, e, fun W k i hi => bel_cell k (hc i hi)⟩
  clear hM hB hC hT hcr hcf
  go_enter Tryz.func20, Tryz.ntmps20
  go_upto_region 1 with (fail)
  change Code.wp _ _ _ _ (w.alloc (.cells (zrow s (.slice pr s.lr cr) (.slice pf s.lf cf)) 54))
  generalize w.alloc (.cells (zrow s (.slice pr s.lr cr) (.slice pf s.lf cf)) 54) = V at hX gX sX HT ⊢
  have x0 : V.cell? ⟨w.heap.size, 0, none⟩ = some (.int .i64 s.nw) := row_cell hX.out rfl
  go_wp2_with fail
  refine (New_at s.nw 8192 V h2 h32 ⟨by decide, by decide, by decide⟩ HT.out).mono ?_; rintro e w1 ⟨b, G, rfl, B1, g1, low⟩
  obtain ⟨fb, mb, g, x, cs, os, P1⟩ := B1
  have Q1 : Hid (ZM w w1 s (.slice pr s.lr cr) (.slice pf s.lf cf) b fb mb g x cs os G (mK8 s.nw (fun _ => 0) (fun _ => 0))) :=
    ⟨P1, bel_heap g1 hX.out, fun e => absurd (low _ e) (Nat.not_le.2 sX.out), fun i hi => Nat.le_trans (Nat.le_of_lt sX.out) (low i hi), bel_trans gX.out g1⟩
  have HT1 := Lib.hid (HT.out.bel g1)
  have SX1 : Hid (w.heap.size < w1.heap.size) := Nat.lt_of_lt_of_le sX.out g1.size
  clear g1 low P1 hX gX sX HT x0
  go_wp2_with fail
  refine (A7.New_at (K := fun _ => False) w1 HT1.out.i (fun _ e => e.elim)).mono ?_; rintro e w2 ⟨a, Ga, rfl, A2, g2, low2⟩
  have H2 := Lib.hid (A7.Has.start A2)
  have FA : Hid (∀ i, Ga i → ¬ isTab i) := fun i hi ht => absurd (HT1.out.lt ht) (Nat.not_lt.2 (low2 i hi))
  have DA : Hid (∀ i, G i → ¬ Ga i) := fun i hi ha => absurd (Q1.out.P.lt i hi) (Nat.not_lt.2 (low2 i ha))
  have LW : Hid (∀ i, Ga i → w.heap.size ≤ i) := fun i hi => Nat.le_trans (Nat.le_of_lt SX1.out) (low2 i hi)
  have LX : Hid (¬ Ga w.heap.size) := fun e => absurd (low2 _ e) (Nat.not_le.2 SX1.out)
  have Q2 := Lib.hid (Q1.out.bel g2)
  clear A2 g2 low2 Q1 HT1 SX1
  have x0 := Q2.out.c0
  go_wp2_with fail
  refine (All_yes s.nw h2 h32 (un_rep 0 (by decide) _ rfl rfl) H2.out).mono ?_; rintro e w4 ⟨rfl, H4⟩
  have Q4 := Lib.hid (Q2.out.turns (wturns_of H4.turns) DA.out FA.out LW.out LX.out)
  have H4 := Lib.hid H4
  clear H2 Q2 x0
  obtain ⟨wf, hw1, hw2, hw3, _⟩ := hq_words (q := AS.nil) h2 h32 (un_rep 0 (by decide) _ rfl rfl) rfl
  have HW1 := Lib.hid hw1
  have HW2 := Lib.hid hw2
  have HW3 := Lib.hid hw3
  clear hw1 hw2 hw3
  go_wp2_with fail
  obtain ⟨G', K', A⟩ := H4.out.see
  refine (A7.Words_any A).mono ?_; rintro e w5 hor
  have hor : ∃ l, e = .returned (.tuple #[l, .int .i64 0]) ∧ w5.ownsRow w4.heap.size 22 1 l 94 (bsL .u32 wf 94) ∧ Below w4.heap.size w4 w5 := by
    rcases hor with ⟨f, l, e1, e2, e3, e4⟩ | ⟨e1, _⟩
    · rw [HW1.out] at e1
      cases e1
      rw [HW2.out] at e3
      exact ⟨l, e2, e3, e4⟩
    · rw [HW1.out] at e1; cases e1
  obtain ⟨l, rfl, own, g5⟩ := hor
  have GL : ∀ i, G i → i < w4.heap.size := Q4.out.P.lt
  have SL : Hid (∀ W, Turns G w5 W → Sl .u32 W l 94 (zW s.nw)) := fun W T => (own_sl (own_turns own T GL)).congr fun i hi => by have := HW3.out i hi; rw [show AS.nil.n + i = i from Nat.zero_add i] at this; rw [this]; unfold zW; rw [if_pos hi]
  clear GL
  have Q5 := Lib.hid (Q4.out.bel g5)
  have H5 := Lib.hid (H4.out.bel g5)
  clear A own g5 H4 Q4 HW1 HW2 HW3
  obtain ⟨pl, cl, rfl, _⟩ := SL.out w5 (Turns.refl _ _)
  obtain ⟨G', K', A⟩ := H5.out.see
  obtain ⟨l1, l2⟩ := hq_at (q := AS.nil) h2 h32 (un_rep 0 (by decide) _ rfl rfl) rfl
  have l1 : A7.look (hq s.nw AS.nil 12).ms sYield = some 4 := l1
  have l2 : A7.look (hq s.nw AS.nil 12).ms sEnd = some 0 := l2
  have AT := Lib.hid (A7.At_at sYield (by decide) A)
  unfold A7.atV A7.atE at AT
  rw [l1] at AT
  unfold sYield at AT
  have AU := Lib.hid (A7.At_at sEnd (by decide) A)
  unfold A7.atV A7.atE at AU
  rw [l2] at AU
  unfold sEnd at AU
  clear A H5 l1 l2
  go_wp2_with fail
  refine AT.out.mono ?_; rintro e w6 ⟨rfl, rfl⟩
  clear AT
  go_wp2_with fail
  refine AU.out.mono ?_; rintro e w7 ⟨rfl, rfl⟩
  clear AU
  go_wp2_with fail
  go_loopw [12] (fun i wr => ∃ k : Nat, k ≤ 2048 ∧ i = .int .i64 (4 * (k : Int)) ∧ ZM w wr s (.slice pr s.lr cr) (.slice pf s.lf cf) b fb mb g x cs os G (mK8 s.nw (ptB (fun _ => 0) 0 (zFill s.fill) k) (fun _ => 0)) ∧ Turns G w7 wr) (fun i _ => (8192 - intOf i).toNat)
  case atStart => exact ⟨0, by decide, rfl, Q5.out, Turns.refl _ _⟩
  case round =>
    obtain ⟨k, hk, rfl, Q, SLk⟩ := hrel
    have Q := Lib.hid Q
    have SLk := Lib.hid SLk
    clear Q5
    by_cases hlt : k < 2048
    · have hlt' : 4 * (k : Int) < 8192 := by omega
      have w4k : IntKind.i64.wrap (4 * (k : Int) + 4) = 4 * (k : Int) + 4 := IntWalk.i64_in _ (by omega)
      have u4k : IntKind.u32.wrap (4 * (k : Int)) = 4 * (k : Int) := IntWalk.u32_in _ (by omega)
      have HK := Lib.hid hlt
      have x7 := Q.out.c18
      go_wp2_with fail
      have QD := Lib.hid (Q.out.bel (Below.drew (Below.refl _ _)))
      have DD : wr.drew.cell? ⟨w.heap.size, 18, none⟩ = some (.int .u32 s.fill) := QD.out.c18
      have HS : Hid (∀ a v : Int, a = 4 * (k : Int) → v = zFill s.fill k → Calls Tryz.prog 90 #[.pointer (some ⟨mb, 0, none⟩), .int .u32 a, .int .i64 4, .int .u32 v] wr.drew fun e w' => e = .returned (.int .i64 0) ∧ ZM w w' s (.slice pr s.lr cr) (.slice pf s.lf cf) b fb mb g x cs os G (mK8 s.nw (ptB (fun _ => 0) 0 (zFill s.fill) (k + 1)) (fun _ => 0)) ∧ Turns G w7 w') := by
        rintro _ _ rfl rfl
        have C := wstore QD.out.P (4 * k) (zFill s.fill k) (zFill_w _ _) (th_80 (by omega) (by omega) (by have := HK.out; omega))
        rw [show ((4 * k : Nat) : Int) = 4 * (k : Int) by omega] at C
        refine C.mono ?_
        rintro e w' ⟨h1, h2, h3⟩
        have h2' : MachP w' b fb mb g x cs os G (mK8 s.nw (ptB (fun _ => 0) 0 (zFill s.fill) (k + 1)) (fun _ => 0)) := by
          show MachP w' b fb mb g x cs os G (mK8 s.nw (stB (ptB (fun _ => 0) 0 (zFill s.fill) k) (0 + 4 * k) 4 (zFill s.fill k)) (fun _ => 0))
          rw [Nat.zero_add]; exact h2
        exact ⟨h1, QD.out.only h2' h3 QD.out.P.gg, (SLk.out.trans (G' := fun _ => False) (Turns.of_bel (Below.drew (Below.refl _ _))) (fun _ e => e.elim)).trans (Turns.of_only h3 QD.out.P.gg) (fun _ e => .inl e)⟩
      go_region_held3 (fun W => W.cell? ⟨w.heap.size, 18, none⟩ = some (.int .u32 s.fill))
        (first
          | exact DD
          | exact D2)
        (first
          | (go_at_call 34; refine (Mem_get QD.out.P).mono ?_; rintro e V1 ⟨rfl, hV1⟩; subst hV1)
          | (go_at_call 90; refine (HS.out _ _ rfl rfl).mono ?_; rintro e V2 ⟨rfl, Q2, S2⟩; have D2 : V2.cell? ⟨w.heap.size, 18, none⟩ = some (.int .u32 s.fill) := Q2.c18))
      all_goals
        first
          | (have Q2 := Lib.hid Q2
             have S2 := Lib.hid S2
             clear QD DD HS Q x7 D2
             go_wp2_with fail
             go_roundw
             case rel => exact ⟨k + 1, HK.out, by go_num, Q2.out, S2.out⟩
             case measure => simp only [intOf]; have := HK.out; omega)
          | done
    · obtain rfl : k = 2048 := by omega
      have hge : ¬ 4 * ((2048 : Nat) : Int) < 8192 := by omega
      go_wp2_with fail
      refine (Mem_get Q.out.P).mono ?_; rintro e w8 ⟨rfl, rfl⟩
      go_wp2_with fail
      refine (M5.put_yes 768 Q.out.P.mem (SL.out _ SLk.out) (zW_w h2 h32) (show spE ((8192 : Nat) : Int) 768 94 = 0 by decide)).mono ?_; rintro e w9 ⟨rfl, M9, g9⟩
      have Q9 := Lib.hid (Q.out.only (Q.out.P.memd g9 M9) g9 Q.out.P.gg)
      clear M9 g9 Q SL SLk
      obtain ⟨er1, HE1⟩ := enc_w (sBr 120) (W8.sBr_b ⟨by decide, by decide⟩)
      obtain ⟨er2, HE2⟩ := enc_w (sBr 112) (W8.sBr_b ⟨by decide, by decide⟩)
      have HE1 := Lib.hid HE1
      have HE2 := Lib.hid HE2
      have HW1 := Lib.hid (W8.xw_w (W8.sBr_b (k := 120) ⟨by decide, by decide⟩))
      have HW2 := Lib.hid (W8.xw_w (W8.sBr_b (k := 112) ⟨by decide, by decide⟩))
      go_wp2_with fail
      refine (HE1.out _).mono ?_; rintro e w10 ⟨rfl, g10⟩
      have Q10 := Lib.hid (Q9.out.bel g10)
      clear Q9 g10 HE1
      go_wp2_with fail
      refine (HE2.out _).mono ?_; rintro e w11 ⟨rfl, g11⟩
      have Q11 := Lib.hid (Q10.out.bel g11)
      clear Q10 g11 HE2
      go_wp2_with fail
      refine (Mem_get Q11.out.P).mono ?_; rintro e w12 ⟨rfl, rfl⟩
      go_wp2_with fail
      refine (wstore Q11.out.P 304 (sBr 120).word HW1.out (th_80 (by decide) (by decide) (by decide))).mono ?_; rintro e w13 ⟨rfl, P13, g13⟩
      have Q13 := Lib.hid (Q11.out.only P13 g13 Q11.out.P.gg)
      clear P13 g13 Q11
      go_wp2_with fail
      refine (Mem_get Q13.out.P).mono ?_; rintro e w14 ⟨rfl, rfl⟩
      go_wp2_with fail
      refine (wstore Q13.out.P 320 (sBr 112).word HW2.out (th_80 (by decide) (by decide) (by decide))).mono ?_; rintro e w15 ⟨rfl, P15, g15⟩
      have Q15 : Hid (ZM w w15 s (.slice pr s.lr cr) (.slice pf s.lf cf) b fb mb g x cs os G (mK8 s.nw (zA s.nw s.fill) (fun _ => 0))) := Q13.out.only P15 g15 Q13.out.P.gg
      clear P15 g15 Q13 HW1 HW2
      have x8 := Q15.out.c19
      go_upto_if 123 with (fail)
      go_cut [17] (fun v wx => v = .int .i32 s.kd ∧ ZM w wx s (.slice pr s.lr cr) (.slice pf s.lf cf) b fb mb g x cs os G (mK8 s.nw (zA s.nw s.fill) (fun _ => 0)))
      case first =>
        cases hen : s.en
        · have x8' : w15.cell? ⟨w.heap.size, 19, none⟩ = some (.bool false) := by rw [← hen]; exact x8
          clear x8
          go_wp2_with fail
          go_meet
          exact ⟨by unfold TC.kd; rw [hen]; rfl, Q15.out⟩
        · have x8' : w15.cell? ⟨w.heap.size, 19, none⟩ = some (.bool true) := by rw [← hen]; exact x8
          clear x8
          go_wp2_with fail
          go_meet
          exact ⟨by unfold TC.kd; rw [hen]; rfl, Q15.out⟩
      case rest =>
        obtain ⟨rfl, QB⟩ := hcut
        have QB := Lib.hid QB
        clear Q15 x8 hge
        obtain ⟨er3, HE3⟩ := enc_w (tI s.kd) (tI_all (kd_is HM.out)).1
        have HE3 := Lib.hid HE3
        have HW3 := Lib.hid (W8.xw_w (tI_all (kd_is HM.out)).1)
        go_wp2_with fail
        refine (HE3.out _).mono ?_; rintro e w16 ⟨rfl, g16⟩
        have Q16 := Lib.hid (QB.out.bel g16)
        clear QB g16 HE3
        go_wp2_with fail
        refine (Mem_get Q16.out.P).mono ?_; rintro e w17 ⟨rfl, rfl⟩
        go_wp2_with fail
        refine (wstore Q16.out.P 1536 (tI s.kd).word HW3.out (th_80 (by decide) (by decide) (by decide))).mono ?_; rintro e w18 ⟨rfl, P18, g18⟩
        have Q18 := Lib.hid (Q16.out.only P18 g18 Q16.out.P.gg)
        clear P18 g18 Q16 HW3
        have ur : IntKind.u32.wrap s.ru = s.ru := IntWalk.u32_in _ (by have := HM.out.r0; have := HM.out.r1; have := HM.out.t4; omega)
        have ut : IntKind.u32.wrap s.th = s.th := IntWalk.u32_in _ (by have := HM.out.t1; have := HM.out.t4; omega)
        go_upto_region 24 with (fail)
        have D24 := Lib.hid (Q18.out.bel (Below.drew (Below.refl _ _)))
        have DD : w18.drew.cell? ⟨w.heap.size, 6, none⟩ = some (.int .i64 s.ru) := D24.out.c6
        have HS : Hid (∀ v : Int, v = s.ru → Calls Tryz.prog 90 #[.pointer (some ⟨mb, 0, none⟩), .int .u32 128, .int .i64 4, .int .u32 v] w18.drew fun e w' => e = .returned (.int .i64 0) ∧ ZM w w' s (.slice pr s.lr cr) (.slice pf s.lf cf) b fb mb g x cs os G (mK8 s.nw (stB (stB (zA s.nw s.fill) 1536 4 (tI s.kd).word) 128 4 s.ru) (fun _ => 0))) := by
          rintro _ rfl
          refine (wstore D24.out.P 128 s.ru (ru_w HM.out) (th_80 (by decide) (by decide) (by decide))).mono ?_
          rintro e w' ⟨h1, h2, h3⟩
          exact ⟨h1, D24.out.only h2 h3 D24.out.P.gg⟩
        go_region_held3 (fun W => W.cell? ⟨w.heap.size, 6, none⟩ = some (.int .i64 s.ru))
          (first
            | exact DD
            | exact D2)
          (first
            | (go_at_call 34; refine (Mem_get D24.out.P).mono ?_; rintro e V1 ⟨rfl, hV1⟩; subst hV1)
            | (go_at_call 90; refine (HS.out _ rfl).mono ?_; rintro e w20 ⟨rfl, Q2⟩; have D2 : w20.cell? ⟨w.heap.size, 6, none⟩ = some (.int .i64 s.ru) := Q2.c6))
        have Q20 := Lib.hid Q2
        clear Q2 D24 DD HS D2 Q18
        go_upto_region 25 with (fail)
        have D25 := Lib.hid (Q20.out.bel (Below.drew (Below.refl _ _)))
        have DD : w20.drew.cell? ⟨w.heap.size, 5, none⟩ = some (.int .i64 s.th) := D25.out.c5
        have HS : Hid (∀ v : Int, v = s.th → Calls Tryz.prog 90 #[.pointer (some ⟨mb, 0, none⟩), .int .u32 132, .int .i64 4, .int .u32 v] w20.drew fun e w' => e = .returned (.int .i64 0) ∧ ZM w w' s (.slice pr s.lr cr) (.slice pf s.lf cf) b fb mb g x cs os G (mK8 s.nw (stB (stB (stB (zA s.nw s.fill) 1536 4 (tI s.kd).word) 128 4 s.ru) 132 4 s.th) (fun _ => 0))) := by
          rintro _ rfl
          refine (wstore D25.out.P 132 s.th (th_ww HM.out) (th_80 (by decide) (by decide) (by decide))).mono ?_
          rintro e w' ⟨h1, h2, h3⟩
          exact ⟨h1, D25.out.only h2 h3 D25.out.P.gg⟩
        go_region_held3 (fun W => W.cell? ⟨w.heap.size, 5, none⟩ = some (.int .i64 s.th))
          (first
            | exact DD
            | exact D2)
          (first
            | (go_at_call 34; refine (Mem_get D25.out.P).mono ?_; rintro e V1 ⟨rfl, hV1⟩; subst hV1)
            | (go_at_call 90; refine (HS.out _ rfl).mono ?_; rintro e w22 ⟨rfl, Q2⟩; have D2 : w22.cell? ⟨w.heap.size, 5, none⟩ = some (.int .i64 s.th) := Q2.c5))
        have Q22 := Lib.hid Q2
        clear Q2 D25 DD HS D2 Q20
        have Q22 : Hid (ZM w w22 s (.slice pr s.lr cr) (.slice pf s.lf cf) b fb mb g x cs os G (mK8 s.nw (s.fT 0) (s.rR 0))) := Q22.out
        clear ur ut
        go_wp2_with fail
        go_loopw [20] (fun i wr => ∃ k : Nat, k ≤ 4 ∧ i = .int .i64 (k : Int) ∧ ZM w wr s (.slice pr s.lr cr) (.slice pf s.lf cf) b fb mb g x cs os G (mK8 s.nw (s.fT k) (s.rR 0))) (fun i _ => (4 - intOf i).toNat)
        case atStart => exact ⟨0, by decide, rfl, Q22.out⟩
        case round =>
          obtain ⟨k, hk, rfl, Q⟩ := hrel
          have Q := Lib.hid Q
          clear Q22
          by_cases hlt : k < 4
          · rcases (by omega : k = 0 ∨ k = 1 ∨ k = 2 ∨ k = 3) with rfl | rfl | rfl | rfl
            · have xa := Q.out.c7
              go_upto_if 153 with (fail)
              go_cut [21] (fun v wx => v = .int .u32 (s.ai 0) ∧ ZM w wx s (.slice pr s.lr cr) (.slice pf s.lf cf) b fb mb g x cs os G (mK8 s.nw (s.fT 0) (s.rR 0)))
              case first =>
                cases hal : s.al 0
                · have xb : wr.cell? ⟨w.heap.size, 7, none⟩ = some (.bool false) := by rw [← hal]; exact xa
                  clear xa
                  go_wp2_with fail
                  go_meet
                  exact ⟨by unfold TC.ai; rw [hal]; rfl, Q.out⟩
                · have xb : wr.cell? ⟨w.heap.size, 7, none⟩ = some (.bool true) := by rw [← hal]; exact xa
                  clear xa
                  go_wp2_with fail
                  go_meet
                  exact ⟨by unfold TC.ai; rw [hal]; rfl, Q.out⟩
              case rest =>
                obtain ⟨rfl, QB⟩ := hcut
                have QB := Lib.hid QB
                clear Q xa
                go_upto_region 32 with (fail)
                have QD := Lib.hid (QB.out.bel (Below.drew (Below.refl _ _)))
                have DD : Hid (∀ W, Below wc.drew.heap.size wc.drew W → W.cell? ⟨w.heap.size, 11, none⟩ = some (.int .u16 (s.sk 0))) := fun W kk => (QD.out.bel kk).c11
                have HA : Hid (Below wc.drew.heap.size wc.drew (wc.drew.alloc (.cells #[.int .u32 1700, .int .u32 (frm (s.sk 0)), .int .u32 5000, .int .u32 (s.ai 0)] 22))) := bel_alK (Below.refl _ _)
                have SL := Lib.hid (SL_0 s wc.drew 22)
                have HS : Hid (Calls Tryz.prog 91 #[.pointer (some ⟨mb, 0, none⟩), .int .u32 64, .slice (some ⟨wc.drew.heap.size, 0, none⟩) 4 4] (wc.drew.alloc (.cells #[.int .u32 1700, .int .u32 (frm (s.sk 0)), .int .u32 5000, .int .u32 (s.ai 0)] 22)) fun e w' => e = .returned (.int .i64 0) ∧ ZM w w' s (.slice pr s.lr cr) (.slice pf s.lf cf) b fb mb g x cs os G (mK8 s.nw (ptB (s.fT 0) 64 (s.blk 0) 4) (s.rR 0))) := by
                  have QA := QD.out.bel HA.out
                  refine (M5.put_yes 64 QA.P.mem SL.out (blk_w HM.out 0 (by decide)) (show spE ((8192 : Nat) : Int) 64 4 = 0 by decide)).mono ?_
                  rintro e w' ⟨h1, h2, h3⟩
                  exact ⟨h1, QA.only (QA.P.memd h3 h2) h3 QA.P.gg⟩
                have BK := Lib.hid (HB.out.sk 0)
                go_region_held3 (fun W => W.cell? ⟨w.heap.size, 11, none⟩ = some (.int .u16 (s.sk 0)))
                  (first
                    | exact DD.out _ (Below.refl _ _)
                    | exact DD.out _ HA.out
                    | exact D2)
                  (first
                    | (go_at_call 34; refine (Mem_get QD.out.P).mono ?_; rintro e V1 ⟨rfl, hV1⟩; subst hV1)
                    | (go_at_call 88; refine (frame_at _ _ BK.out).mono ?_; rintro e V1 ⟨rfl, rfl⟩)
                    | (go_at_call 91; refine HS.out.mono ?_; rintro e V2 ⟨rfl, Q2⟩; have D2 : V2.cell? ⟨w.heap.size, 11, none⟩ = some (.int .u16 (s.sk 0)) := Q2.c11))
                rw [fT_1] at Q2
                have Q2 := Lib.hid Q2
                clear QD DD HA SL HS BK QB D2
                go_wp2_with fail
                go_roundw
                case rel => exact ⟨1, by decide, by go_num, Q2.out⟩
                case measure => simp only [intOf]; omega
            · have xa := Q.out.c8
              go_upto_if 153 with (fail)
              go_cut [21] (fun v wx => v = .int .u32 (s.ai 1) ∧ ZM w wx s (.slice pr s.lr cr) (.slice pf s.lf cf) b fb mb g x cs os G (mK8 s.nw (s.fT 1) (s.rR 0)))
              case first =>
                cases hal : s.al 1
                · have xb : wr.cell? ⟨w.heap.size, 8, none⟩ = some (.bool false) := by rw [← hal]; exact xa
                  clear xa
                  go_wp2_with fail
                  go_meet
                  exact ⟨by unfold TC.ai; rw [hal]; rfl, Q.out⟩
                · have xb : wr.cell? ⟨w.heap.size, 8, none⟩ = some (.bool true) := by rw [← hal]; exact xa
                  clear xa
                  go_wp2_with fail
                  go_meet
                  exact ⟨by unfold TC.ai; rw [hal]; rfl, Q.out⟩
              case rest =>
                obtain ⟨rfl, QB⟩ := hcut
                have QB := Lib.hid QB
                clear Q xa
                go_upto_region 32 with (fail)
                have QD := Lib.hid (QB.out.bel (Below.drew (Below.refl _ _)))
                have DD : Hid (∀ W, Below wc.drew.heap.size wc.drew W → W.cell? ⟨w.heap.size, 12, none⟩ = some (.int .u16 (s.sk 1))) := fun W kk => (QD.out.bel kk).c12
                have HA : Hid (Below wc.drew.heap.size wc.drew (wc.drew.alloc (.cells #[.int .u32 1704, .int .u32 (frm (s.sk 1)), .int .u32 5001, .int .u32 (s.ai 1)] 22))) := bel_alK (Below.refl _ _)
                have SL := Lib.hid (SL_1 s wc.drew 22)
                have HS : Hid (Calls Tryz.prog 91 #[.pointer (some ⟨mb, 0, none⟩), .int .u32 80, .slice (some ⟨wc.drew.heap.size, 0, none⟩) 4 4] (wc.drew.alloc (.cells #[.int .u32 1704, .int .u32 (frm (s.sk 1)), .int .u32 5001, .int .u32 (s.ai 1)] 22)) fun e w' => e = .returned (.int .i64 0) ∧ ZM w w' s (.slice pr s.lr cr) (.slice pf s.lf cf) b fb mb g x cs os G (mK8 s.nw (ptB (s.fT 1) 80 (s.blk 1) 4) (s.rR 0))) := by
                  have QA := QD.out.bel HA.out
                  refine (M5.put_yes 80 QA.P.mem SL.out (blk_w HM.out 1 (by decide)) (show spE ((8192 : Nat) : Int) 80 4 = 0 by decide)).mono ?_
                  rintro e w' ⟨h1, h2, h3⟩
                  exact ⟨h1, QA.only (QA.P.memd h3 h2) h3 QA.P.gg⟩
                have BK := Lib.hid (HB.out.sk 1)
                go_region_held3 (fun W => W.cell? ⟨w.heap.size, 12, none⟩ = some (.int .u16 (s.sk 1)))
                  (first
                    | exact DD.out _ (Below.refl _ _)
                    | exact DD.out _ HA.out
                    | exact D2)
                  (first
                    | (go_at_call 34; refine (Mem_get QD.out.P).mono ?_; rintro e V1 ⟨rfl, hV1⟩; subst hV1)
                    | (go_at_call 88; refine (frame_at _ _ BK.out).mono ?_; rintro e V1 ⟨rfl, rfl⟩)
                    | (go_at_call 91; refine HS.out.mono ?_; rintro e V2 ⟨rfl, Q2⟩; have D2 : V2.cell? ⟨w.heap.size, 12, none⟩ = some (.int .u16 (s.sk 1)) := Q2.c12))
                rw [fT_2] at Q2
                have Q2 := Lib.hid Q2
                clear QD DD HA SL HS BK QB D2
                go_wp2_with fail
                go_roundw
                case rel => exact ⟨2, by decide, by go_num, Q2.out⟩
                case measure => simp only [intOf]; omega
            · have xa := Q.out.c9
              go_upto_if 153 with (fail)
              go_cut [21] (fun v wx => v = .int .u32 (s.ai 2) ∧ ZM w wx s (.slice pr s.lr cr) (.slice pf s.lf cf) b fb mb g x cs os G (mK8 s.nw (s.fT 2) (s.rR 0)))
              case first =>
                cases hal : s.al 2
                · have xb : wr.cell? ⟨w.heap.size, 9, none⟩ = some (.bool false) := by rw [← hal]; exact xa
                  clear xa
                  go_wp2_with fail
                  go_meet
                  exact ⟨by unfold TC.ai; rw [hal]; rfl, Q.out⟩
                · have xb : wr.cell? ⟨w.heap.size, 9, none⟩ = some (.bool true) := by rw [← hal]; exact xa
                  clear xa
                  go_wp2_with fail
                  go_meet
                  exact ⟨by unfold TC.ai; rw [hal]; rfl, Q.out⟩
              case rest =>
                obtain ⟨rfl, QB⟩ := hcut
                have QB := Lib.hid QB
                clear Q xa
                go_upto_region 32 with (fail)
                have QD := Lib.hid (QB.out.bel (Below.drew (Below.refl _ _)))
                have DD : Hid (∀ W, Below wc.drew.heap.size wc.drew W → W.cell? ⟨w.heap.size, 13, none⟩ = some (.int .u16 (s.sk 2))) := fun W kk => (QD.out.bel kk).c13
                have HA : Hid (Below wc.drew.heap.size wc.drew (wc.drew.alloc (.cells #[.int .u32 1708, .int .u32 (frm (s.sk 2)), .int .u32 5002, .int .u32 (s.ai 2)] 22))) := bel_alK (Below.refl _ _)
                have SL := Lib.hid (SL_2 s wc.drew 22)
                have HS : Hid (Calls Tryz.prog 91 #[.pointer (some ⟨mb, 0, none⟩), .int .u32 96, .slice (some ⟨wc.drew.heap.size, 0, none⟩) 4 4] (wc.drew.alloc (.cells #[.int .u32 1708, .int .u32 (frm (s.sk 2)), .int .u32 5002, .int .u32 (s.ai 2)] 22)) fun e w' => e = .returned (.int .i64 0) ∧ ZM w w' s (.slice pr s.lr cr) (.slice pf s.lf cf) b fb mb g x cs os G (mK8 s.nw (ptB (s.fT 2) 96 (s.blk 2) 4) (s.rR 0))) := by
                  have QA := QD.out.bel HA.out
                  refine (M5.put_yes 96 QA.P.mem SL.out (blk_w HM.out 2 (by decide)) (show spE ((8192 : Nat) : Int) 96 4 = 0 by decide)).mono ?_
                  rintro e w' ⟨h1, h2, h3⟩
                  exact ⟨h1, QA.only (QA.P.memd h3 h2) h3 QA.P.gg⟩
                have BK := Lib.hid (HB.out.sk 2)
                go_region_held3 (fun W => W.cell? ⟨w.heap.size, 13, none⟩ = some (.int .u16 (s.sk 2)))
                  (first
                    | exact DD.out _ (Below.refl _ _)
                    | exact DD.out _ HA.out
                    | exact D2)
                  (first
                    | (go_at_call 34; refine (Mem_get QD.out.P).mono ?_; rintro e V1 ⟨rfl, hV1⟩; subst hV1)
                    | (go_at_call 88; refine (frame_at _ _ BK.out).mono ?_; rintro e V1 ⟨rfl, rfl⟩)
                    | (go_at_call 91; refine HS.out.mono ?_; rintro e V2 ⟨rfl, Q2⟩; have D2 : V2.cell? ⟨w.heap.size, 13, none⟩ = some (.int .u16 (s.sk 2)) := Q2.c13))
                rw [fT_3] at Q2
                have Q2 := Lib.hid Q2
                clear QD DD HA SL HS BK QB D2
                go_wp2_with fail
                go_roundw
                case rel => exact ⟨3, by decide, by go_num, Q2.out⟩
                case measure => simp only [intOf]; omega
            · have xa := Q.out.c10
              go_upto_if 153 with (fail)
              go_cut [21] (fun v wx => v = .int .u32 (s.ai 3) ∧ ZM w wx s (.slice pr s.lr cr) (.slice pf s.lf cf) b fb mb g x cs os G (mK8 s.nw (s.fT 3) (s.rR 0)))
              case first =>
                cases hal : s.al 3
                · have xb : wr.cell? ⟨w.heap.size, 10, none⟩ = some (.bool false) := by rw [← hal]; exact xa
                  clear xa
                  go_wp2_with fail
                  go_meet
                  exact ⟨by unfold TC.ai; rw [hal]; rfl, Q.out⟩
                · have xb : wr.cell? ⟨w.heap.size, 10, none⟩ = some (.bool true) := by rw [← hal]; exact xa
                  clear xa
                  go_wp2_with fail
                  go_meet
                  exact ⟨by unfold TC.ai; rw [hal]; rfl, Q.out⟩
              case rest =>
                obtain ⟨rfl, QB⟩ := hcut
                have QB := Lib.hid QB
                clear Q xa
                go_upto_region 32 with (fail)
                have QD := Lib.hid (QB.out.bel (Below.drew (Below.refl _ _)))
                have DD : Hid (∀ W, Below wc.drew.heap.size wc.drew W → W.cell? ⟨w.heap.size, 14, none⟩ = some (.int .u16 (s.sk 3))) := fun W kk => (QD.out.bel kk).c14
                have HA : Hid (Below wc.drew.heap.size wc.drew (wc.drew.alloc (.cells #[.int .u32 1712, .int .u32 (frm (s.sk 3)), .int .u32 5003, .int .u32 (s.ai 3)] 22))) := bel_alK (Below.refl _ _)
                have SL := Lib.hid (SL_3 s wc.drew 22)
                have HS : Hid (Calls Tryz.prog 91 #[.pointer (some ⟨mb, 0, none⟩), .int .u32 112, .slice (some ⟨wc.drew.heap.size, 0, none⟩) 4 4] (wc.drew.alloc (.cells #[.int .u32 1712, .int .u32 (frm (s.sk 3)), .int .u32 5003, .int .u32 (s.ai 3)] 22)) fun e w' => e = .returned (.int .i64 0) ∧ ZM w w' s (.slice pr s.lr cr) (.slice pf s.lf cf) b fb mb g x cs os G (mK8 s.nw (ptB (s.fT 3) 112 (s.blk 3) 4) (s.rR 0))) := by
                  have QA := QD.out.bel HA.out
                  refine (M5.put_yes 112 QA.P.mem SL.out (blk_w HM.out 3 (by decide)) (show spE ((8192 : Nat) : Int) 112 4 = 0 by decide)).mono ?_
                  rintro e w' ⟨h1, h2, h3⟩
                  exact ⟨h1, QA.only (QA.P.memd h3 h2) h3 QA.P.gg⟩
                have BK := Lib.hid (HB.out.sk 3)
                go_region_held3 (fun W => W.cell? ⟨w.heap.size, 14, none⟩ = some (.int .u16 (s.sk 3)))
                  (first
                    | exact DD.out _ (Below.refl _ _)
                    | exact DD.out _ HA.out
                    | exact D2)
                  (first
                    | (go_at_call 34; refine (Mem_get QD.out.P).mono ?_; rintro e V1 ⟨rfl, hV1⟩; subst hV1)
                    | (go_at_call 88; refine (frame_at _ _ BK.out).mono ?_; rintro e V1 ⟨rfl, rfl⟩)
                    | (go_at_call 91; refine HS.out.mono ?_; rintro e V2 ⟨rfl, Q2⟩; have D2 : V2.cell? ⟨w.heap.size, 14, none⟩ = some (.int .u16 (s.sk 3)) := Q2.c14))
                rw [fT_4] at Q2
                have Q2 := Lib.hid Q2
                clear QD DD HA SL HS BK QB D2
                go_wp2_with fail
                go_roundw
                case rel => exact ⟨4, by decide, by go_num, Q2.out⟩
                case measure => simp only [intOf]; omega
          · have e4 : (k : Int) = 4 := by omega
            have ek4 : k = 4 := by omega
            have QM : Hid (ZM w wr s (.slice pr s.lr cr) (.slice pf s.lf cf) b fb mb g x cs os G (mK8 s.nw s.mem (s.rR 0))) := by
              have := Q.out
              rw [ek4] at this
              exact this
            rw [e4]
            clear hlt hk e4 ek4
            clear Q
            go_wp2_with fail
            go_loopw [22] (fun i wr => ∃ k : Nat, k ≤ s.lr ∧ i = .int .i64 k ∧ ZM w wr s (.slice pr s.lr cr) (.slice pf s.lf cf) b fb mb g x cs os G (mK8 s.nw s.mem (s.rR k))) (fun i _ => s.lr - (intOf i).toNat)
            case atStart => exact ⟨0, Nat.zero_le _, rfl, QM.out⟩
            case round =>
              obtain ⟨k, hk, rfl, Q⟩ := hrel
              have Q := Lib.hid Q
              clear QM
              by_cases hlt : k < s.lr
              · obtain ⟨z, o, rfl, hc⟩ := HR.out (by omega)
                have x0 := Q.out.c0
                have x2 := Q.out.c3
                have lr5 := HM.out.lr
                have e1 : Int.tmod (Int.tdiv (k : Int) 16) s.nw = (k : Int) / 16 % s.nw := by rw [Int.tdiv_eq_ediv_of_nonneg (by omega), Int.tmod_eq_emod_of_nonneg (by omega)]
                have e2 : Int.tmod (k : Int) 16 = (k : Int) % 16 := Int.tmod_eq_emod_of_nonneg (by omega)
                have b1 := Int.emod_nonneg ((k : Int) / 16) (b := s.nw) (by omega)
                have b2 := Int.emod_lt_of_pos ((k : Int) / 16) (b := s.nw) (by omega)
                have HK := Lib.hid hlt
                have nz : ¬ s.nw = 0 := by omega
                have cz : wr.cell? ⟨z, o + k, none⟩ = some (.int .u32 (s.rg k)) := hc wr Q.out.g k hlt
                have HC := Lib.hid hc
                clear hc
                go_wp2_with fail
                have QD := Lib.hid (Q.out.bel (Below.drew (Below.refl _ _)))
                have DD : wr.drew.cell? ⟨w.heap.size, 0, none⟩ = some (.int .i64 s.nw) ∧ wr.drew.cell? ⟨w.heap.size, 3, none⟩ = some (.slice (some ⟨z, o, none⟩) s.lr cr) ∧ wr.drew.cell? ⟨z, o + k, none⟩ = some (.int .u32 (s.rg k)) := ⟨QD.out.c0, QD.out.c3, HC.out _ QD.out.g k HK.out⟩
                have HS : Hid (∀ a r : Int, a = (k : Int) / 16 % s.nw → r = 16 + (k : Int) % 16 → Calls Tryz.prog 63 #[.pointer (some ⟨fb, 0, none⟩), .int .i64 a, .int .i64 0, .int .i64 r, .int .u32 (s.rg k)] wr.drew fun e w' => e = .returned (.int .i64 0) ∧ ZM w w' s (.slice (some ⟨z, o, none⟩) s.lr cr) (.slice pf s.lf cf) b fb mb g x cs os G (mK8 s.nw s.mem (s.rR (k + 1)))) := by
                  rintro _ _ rfl rfl
                  refine (set_yes QD.out.P ((k : Int) / 16 % s.nw) 0 (16 + (k : Int) % 16) (s.rg k) (HB.out.rg k) ⟨b1, b2, by decide, by decide, by omega, by omega⟩).mono ?_
                  rintro e w' ⟨h1, h2, h3⟩
                  exact ⟨h1, QD.out.only h2 h3 QD.out.P.gf⟩
                have EA : Hid ((IntKind.i64.wrap ((k : Int) / 16)).tmod s.nw = (k : Int) / 16 % s.nw) := by
                  have : IntKind.i64.wrap ((k : Int) / 16) = (k : Int) / 16 := IntWalk.i64_in _ (by omega)
                  unfold Hid
                  rw [this, Int.tmod_eq_emod_of_nonneg (by omega)]
                have EB : Hid (IntKind.i64.wrap (16 + (k : Int) % 16) = 16 + (k : Int) % 16) := IntWalk.i64_in _ (by omega)
                clear b1 b2
                go_region_held3 (fun W => W.cell? ⟨w.heap.size, 0, none⟩ = some (.int .i64 s.nw) ∧ W.cell? ⟨w.heap.size, 3, none⟩ = some (.slice (some ⟨z, o, none⟩) s.lr cr) ∧ W.cell? ⟨z, o + k, none⟩ = some (.int .u32 (s.rg k)))
                  (first
                    | exact DD
                    | exact D2)
                  (first
                    | (go_at_call 25; refine (File_get QD.out.P).mono ?_; rintro e V1 ⟨rfl, hV1⟩; subst hV1)
                    | (go_at_call 63; refine (HS.out _ _ EA.out EB.out).mono ?_; rintro e V2 ⟨rfl, Q2⟩; have D2 : V2.cell? ⟨w.heap.size, 0, none⟩ = some (.int .i64 s.nw) ∧ V2.cell? ⟨w.heap.size, 3, none⟩ = some (.slice (some ⟨z, o, none⟩) s.lr cr) ∧ V2.cell? ⟨z, o + k, none⟩ = some (.int .u32 (s.rg k)) := ⟨Q2.c0, Q2.c3, HC.out _ Q2.g k HK.out⟩))
                have Q2 := Lib.hid Q2
                clear QD DD HS Q x0 x2 cz D2
                go_wp2_with fail
                go_roundw
                case rel => exact ⟨k + 1, HK.out, by go_num, Q2.out⟩
                case measure => simp only [intOf]; have := HK.out; omega
              · obtain rfl : k = s.lr := by omega
                have x2 := Q.out.c3
                go_wp2_with fail
                go_loopw [23] (fun i wr => ∃ k : Nat, (k : Int) ≤ s.nw ∧ i = .int .i64 k ∧ ZM w wr s (.slice pr s.lr cr) (.slice pf s.lf cf) b fb mb g x cs os G (mK8 s.nw s.mem (s.fR k))) (fun i _ => (s.nw - intOf i).toNat)
                case atStart => exact ⟨0, by omega, rfl, Q.out⟩
                case round =>
                  obtain ⟨k, hk, rfl, QF⟩ := hrel
                  have QF := Lib.hid QF
                  clear Q x2
                  have x0 := QF.out.c0
                  by_cases hlt : (k : Int) < s.nw
                  · have x3 := QF.out.c4
                    have w64 : IntKind.i64.wrap ((k : Int) * 16) = (k : Int) * 16 := IntWalk.i64_in _ (by omega)
                    have u64 : IntKind.u16.wrap ((k : Int) * 16) = (k : Int) * 16 := IntWalk.u16_in _ (by omega)
                    have HK := Lib.hid hlt
                    go_upto_if 211 with (fail)
                    go_cut [24] (fun v wx => v = .int .u16 (s.fv k) ∧ ZM w wx s (.slice pr s.lr cr) (.slice pf s.lf cf) b fb mb g x cs os G (mK8 s.nw s.mem (s.fR k)))
                    case first =>
                      by_cases hf : k < s.lf
                      · have efv : s.fr k = s.fv k := by unfold TC.fv; rw [if_pos hf]
                        have EFV := Lib.hid efv
                        obtain ⟨z, o, rfl, hc⟩ := HF.out (by omega)
                        have cz := hc wr QF.out.g k hf
                        clear hc efv
                        go_wp2_with fail
                        go_meet
                        exact ⟨by rw [← EFV.out], QF.out⟩
                      · have efv : (k : Int) * 16 = s.fv k := by unfold TC.fv; rw [if_neg hf]; omega
                        have EFV := Lib.hid efv
                        clear efv
                        go_wp2_with fail
                        go_meet
                        exact ⟨by rw [← EFV.out], QF.out⟩
                    case rest =>
                      obtain ⟨rfl, QB⟩ := hcut
                      have QB := Lib.hid QB
                      clear QF x3 w64 u64
                      have BV : Hid (0 ≤ s.fv k ∧ s.fv k < 65536) := by unfold TC.fv; split; exact HB.out.fr k; exact ⟨by omega, by omega⟩
                      go_wp2_with fail
                      refine (File_get QB.out.P).mono ?_; rintro e w21 ⟨rfl, rfl⟩
                      go_wp2_with fail
                      refine (frame_at _ _ BV.out).mono ?_; rintro e wf ⟨rfl, rfl⟩
                      go_wp2_with fail
                      have C := set_yes QB.out.P (k : Int) 0 14 (s.fp k) (frm_fz.w) ⟨by omega, HK.out, by decide, by decide, by decide, by decide⟩
                      refine C.mono ?_; rintro e w22 ⟨rfl, P22, g22⟩
                      have Q22 : Hid (ZM w w22 s (.slice pr s.lr cr) (.slice pf s.lf cf) b fb mb g x cs os G (mK8 s.nw s.mem (s.fR (k + 1)))) := QB.out.only P22 g22 QB.out.P.gf
                      clear C P22 g22 QB BV
                      go_wp2_with fail
                      go_roundw
                      case rel => exact ⟨k + 1, by have := HK.out; omega, by go_num, Q22.out⟩
                      case measure => simp only [intOf]; have := HK.out; omega
                  · have ek : (k : Int) = s.nw := by omega
                    have ekn : k = s.nw.toNat := by omega
                    have QN : Hid (ZM w wr s (.slice pr s.lr cr) (.slice pf s.lf cf) b fb mb g x cs os G (mK8 s.nw s.mem s.R)) := by
                      have := QF.out
                      rw [ekn] at this
                      exact this
                    clear QF
                    have x15 := QN.out.c15
                    have BC := Lib.hid (HB.out.ch)
                    have QA : Hid (ZM w (wr.alloc (.cells #[.int .u32 s.ch] 22)) s (.slice pr s.lr cr) (.slice pf s.lf cf) b fb mb g x cs os G (mK8 s.nw s.mem s.R)) := QN.out.bel (bel_alK (Below.refl _ _))
                    have SP : Hid (SlP (wr.alloc (.cells #[.int .u32 s.ch] 22)) (.slice (some ⟨wr.heap.size, 0, none⟩) 1 1) 1 (fun _ => s.ch)) := SL_one wr s.ch
                    go_wp2_with fail
                    refine (Choose_at QA.out.P SP.out (fun _ => BC.out) (by decide)).mono ?_; rintro e w23 ⟨rfl, x', cs', G', P23, T23, lo23⟩
                    have Q23 := Lib.hid (QA.out.choose P23 T23 lo23)
                    clear P23 T23 lo23 QA SP QN x15 BC x0
                    go_wp2_with fail
                    refine (PC_set 1536 Q23.out.P ⟨by decide, by decide⟩).mono ?_; rintro e w24 ⟨rfl, P24, g24⟩
                    have Q24 := Lib.hid (Q23.out.only P24 g24 Q23.out.P.gb)
                    clear P24 g24 Q23
                    have x1 := Q24.out.c1
                    have x16 := Q24.out.c16
                    have x17 := Q24.out.c17
                    have c0 := HM.out.c0
                    have c1 := HM.out.c1
                    have wc : IntKind.u8.wrap s.c = s.c := IntWalk.u8_in _ (by omega)
                    go_wp2_with fail
                    have pl1 := HM.out.pl
                    have fl1 := HM.out.fl
                    refine (SetPsr_yes Q24.out.P s.c s.pl 0 s.fl ⟨by omega, by omega⟩ HB.out.pl ⟨by decide, by decide⟩ HB.out.fl ⟨h2, h32, c1, pl1, by decide, fl1⟩).mono ?_; rintro e w25 ⟨rfl, P25, g25⟩
                    have Q25 := Lib.hid (Q24.out.only P25 g25 Q24.out.P.gb)
                    clear P25 g25 Q24 x1 x16 x17 wc pl1 fl1
                    have x2 := Q25.out.c2
                    have i0 := HM.out.i0
                    have i1 := HM.out.i1
                    obtain ⟨t, ht⟩ : ∃ t : Nat, s.iv = (t : Int) := ⟨s.iv.toNat, by omega⟩
                    have t2 : t < 32 := by omega
                    have htn : (t : Int) < s.nw := by omega
                    have HP := Lib.hid (P4.pw_mod t2)
                    have HTO : Hid (P4.pw s.iv.toNat = P4.pw t) := by rw [ht]; rfl
                    rw [ht] at x2
                    clear ht i0 i1
                    go_wp2_with fail
                    rw [HP.out]
                    refine (SetWim_yes (P4.pw t) Q25.out.P (by show (wx (P4.pw t) s.nw).isSome = true; rw [wx_pw (by omega)]; rfl)).mono ?_; rintro e w26 ⟨rfl, P26, g26⟩
                    have Q26 := Lib.hid (Q25.out.only P26 g26 Q25.out.P.gb)
                    clear P26 g26 Q25
                    go_wp2_with fail
                    go_ret
                    refine ⟨b, G', rfl, ?_, Q26.out.g, Q26.out.low⟩
                    have := Q26.out.P.b
                    unfold mZ
                    rw [HTO.out]
                    exact this
end Go.Proofs.YtiobgnelhiadbaaGreatDoor.S10
