/- Package swap as it has landed: pieces as closures; what appends them. -/
import Derived.Test.YtmpagjijjahohaaGreatDoorSwapGA
import Derived.Test.YtmpagjijjahohaaGreatDoorWindGC
import Derived.Test.YtmpagjijjahohaaGreatDoorAsmG
namespace Go.Proofs.YtmpagjijjahohaaGreatDoor.S10
open Go.RowKit
open A7 (XI XB AS AsmB Left Has NoAsm Ins)
open W8 (PartAt PartsAt part_new part_own catL gX_mem Concat_at rowsOf rowsOf_len rowsOf_cells inst_under inst_parts instZ gX frL)
set_option linter.unusedVariables false
attribute [local go_sem] Oper.semAt_some
theorem own_belS {W W' : World} {B k n : Nat} {t : TypeId} {s : Value} {xs : List Value} (h : W.ownsRow B t k s n xs) (g : Below W.heap.size W W') : W'.ownsRow B t k s n xs := by
  obtain ⟨h0, h | ⟨x, cap, cur, rfl, hB, hg, hr⟩⟩ := h
  · exact ⟨h0, .inl h⟩
  · exact ⟨h0, .inr ⟨x, cap, cur, rfl, hB, bel_heap g hg, hr⟩⟩
theorem comeBack_at (w : World) : Calls Tryz.prog 302 #[] w fun e w' => ∃ v, e = .returned v ∧ PartAt w' w.heap.size v cbL ∧ Below w.heap.size w w' := by
  obtain ⟨i0, hi, hz0, hz1, hz2⟩ := inst_parts
  go_enter Tryz.func302, Tryz.ntmps302
  go_wp2_with fail
  refine (number_at 5 3 3 31 _ (by omega)).mono ?_; rintro e w1 ⟨rfl, g1⟩
  have G1 := Lib.hid g1
  clear g1
  have O2 : Hid ((w1.alloc (.cells (rowsOf [nI 30 3 0 1, nI 6 3 3 31]).toArray 106)).ownsRow w.heap.size 106 6 (.slice (some ⟨w1.heap.size, 0, none⟩) 2 2) 2 (rowsOf [nI 30 3 0 1, nI 6 3 3 31])) :=
    ⟨rfl, .inr ⟨w1.heap.size, 2, _, rfl, G1.out.size, heap_alloc_last _ _, Nat.le_refl _, by decide, rfl, rfl⟩⟩
  have G2 : Hid (Below w.heap.size w (w1.alloc (.cells (rowsOf [nI 30 3 0 1, nI 6 3 3 31]).toArray 106))) := G1.out.alloc G1.out.size _
  go_wp2_with fail
  change Calls _ _ _ (w1.alloc (.cells (rowsOf [nI 30 3 0 1, nI 6 3 3 31]).toArray 106)) _
  generalize w1.alloc (.cells (rowsOf [nI 30 3 0 1, nI 6 3 3 31]).toArray 106) = W at O2 G2 ⊢
  refine (enter_at W).mono ?_; rintro e w3 ⟨v, rfl, hv, g3⟩
  obtain ⟨g, c, rfl, hB, hg, hc⟩ := hv
  have O3 := Lib.hid (own_belS O2.out g3)
  have G3 := Lib.hid (bel_trans G2.out g3)
  have HC : Hid (∀ q u, (rowsOf enL)[q]? = some u → w3.cell? ((⟨g, 0, none⟩ : Addr).add q) = some u) := fun q u hu => by rw [add_off, Nat.zero_add]; exact hc q u hu
  clear hc O2 G2 g3 G1
  go_wp2_with (at_builtin; (refine wpList_append_own_at _ rfl _ _ 285 rfl w.heap.size 106 i0 instZ 6 12 inst_under hi hz0 hz1 hz2 rfl (by decide) _ _ _ rfl O3.out ⟨g, 0, none⟩ 1 _ (rowsOf enL) rfl rfl HC.out (fun u hu => rowsOf_cells u hu) (by unfold maxLen; omega) (by omega) G3.out.size ?_; intro v' w4 hown hgrow _ _; have O4 := Lib.hid hown; have G4 := Lib.hid (G3.out.grown hgrow G3.out.size fun k e => (World.ownsRow.lt O3.out k e).1); clear hown hgrow))
  have PA : Hid (PartAt w4 w.heap.size v' cbL) := part_own (L := cbL) O4.out rfl (by decide)
  obtain ⟨vp, vc, rfl, _⟩ := id PA.out
  go_ret
  exact ⟨_, rfl, PA.out, G4.out⟩
/-- What a piece is. -/
inductive Pc where
  | put (k : Nat) (L : Nat → List XI)
  | mk (s : ByteArray)
  | jp (c : Int) (s : ByteArray)
  | st
  | ld
def okP (q : AS) : Pc → Prop
  | .put k L => 0 < k ∧ k ≤ 10 ∧ (∀ i, (L i).length ≤ 16) ∧ 0 < (catL L k).length ∧ (∀ x ∈ catL L k, XB x) ∧ (∀ x ∈ catL L k, x.may = true) ∧ q.n + (catL L k).length ≤ 100000
  | .mk s => s.size ≤ maxLen ∧ q.ms.length < 100000 ∧ A7.look q.ms s = none
  | .jp c s => (0 ≤ c ∧ c ≤ 6) ∧ s.size ≤ maxLen ∧ q.n + 1 ≤ 100000
  | .st => q.n + 16 ≤ 100000
  | .ld => q.n + 16 ≤ 100000
def doP (q : AS) : Pc → AS
  | .put k L => q.adds (fun i => (gX (catL L k) i).word) (catL L k).length
  | .mk s => q.mark s
  | .jp c s => q.jump 17 c s
  | .st => q.adds (fun i => (gX (frL 23) i).word) 16
  | .ld => q.adds (fun i => (gX (frL 22) i).word) 16
/-- A piece, as a closure, lies in world w, in no block below B. -/
def PieceAt (w : World) (B : Nat) (v : Value) : Pc → Prop
  | .put k L => ∃ bx t V, v = .func (.func 361) #[] #[.pointer (some ⟨bx, 0, none⟩)] ∧ B ≤ bx ∧ w.cell? ⟨bx, 0, none⟩ = some t ∧ PartsAt w B t k V L
  | .mk s => ∃ bx, v = .func (.func 360) #[] #[.pointer (some ⟨bx, 0, none⟩)] ∧ B ≤ bx ∧ w.cell? ⟨bx, 0, none⟩ = some (.string s)
  | .jp c s => ∃ bc bs, v = .func (.func 365) #[] #[.pointer (some ⟨bc, 0, none⟩), .pointer (some ⟨bs, 0, none⟩)] ∧ B ≤ bc ∧ B ≤ bs ∧ w.cell? ⟨bc, 0, none⟩ = some (.int .u8 c) ∧ w.cell? ⟨bs, 0, none⟩ = some (.string s)
  | .st => v = .func (.func 300) #[] #[]
  | .ld => v = .func (.func 312) #[] #[]
theorem PartAt.turns {w w' : World} {B : Nat} {G : Nat → Prop} {v : Value} {L : List XI} (h : PartAt w B v L) (T : A7.Turns G w w') (hG : ∀ i, G i → i < B) : PartAt w' B v L := by
  obtain ⟨g, c, rfl, hB, hg, hc⟩ := h
  exact ⟨g, c, rfl, hB, Nat.lt_of_lt_of_le hg T.size, fun j u hu => T.cell (fun e => absurd (hG g e) (Nat.not_lt.2 hB)) (hc j u hu)⟩
theorem PartsAt.turns {w w' : World} {B k : Nat} {G : Nat → Prop} {t : Value} {V : Nat → Value} {L : Nat → List XI} (h : PartsAt w B t k V L) (T : A7.Turns G w w') (hG : ∀ i, G i → i < B) : PartsAt w' B t k V L := by
  obtain ⟨x, c, rfl, hB, hc⟩ := h.at_
  exact ⟨⟨x, c, rfl, hB, fun i hi => T.cell (fun e => absurd (hG x e) (Nat.not_lt.2 hB)) (hc i hi)⟩, fun i hi => PartAt.turns (h.part i hi) T hG⟩
theorem PieceAt.turns {w w' : World} {B : Nat} {G : Nat → Prop} {v : Value} {p : Pc} (h : PieceAt w B v p) (T : A7.Turns G w w') (hG : ∀ i, G i → i < B) : PieceAt w' B v p := by
  have no : ∀ x, B ≤ x → ¬ G x := fun x hx e => absurd (hG x e) (Nat.not_lt.2 hx)
  cases p with
  | put k L => obtain ⟨bx, t, V, e, hb, hc, hp⟩ := h; exact ⟨bx, t, V, e, hb, T.cell (no _ hb) hc, PartsAt.turns hp T hG⟩
  | mk s => obtain ⟨bx, e, hb, hc⟩ := h; exact ⟨bx, e, hb, T.cell (no _ hb) hc⟩
  | jp c s => obtain ⟨bc, bs, e, h1, h2, h3, h4⟩ := h; exact ⟨bc, bs, e, h1, h2, T.cell (no _ h1) h3, T.cell (no _ h2) h4⟩
  | st => exact h
  | ld => exact h
theorem PieceAt.bel {w w' : World} {B : Nat} {v : Value} {p : Pc} (h : PieceAt w B v p) (k : Below w.heap.size w w') : PieceAt w' B v p :=
  h.turns (G := fun _ => False) (A7.Turns.of_bel k) fun _ e => e.elim
/-! They are made. -/
theorem mark_at (s : ByteArray) (w : World) : Calls Tryz.prog 292 #[.string s] w fun e w' => ∃ v, e = .returned v ∧ PieceAt w' w.heap.size v (.mk s) ∧ Below w.heap.size w w' := by
  have hmf : ∀ (fn : Fn) (first cap : Array Value) (w : World), (Instr.makeFunc fn first cap).run Tryz.prog w = .ok (.func fn first cap) w := fun _ _ _ _ => rfl
  go_enter Tryz.func292, Tryz.ntmps292
  go_wp2
  go_ret
  exact ⟨_, rfl, ⟨w.heap.size, rfl, Nat.le_refl _, row_cell (heap_alloc_last _ _) rfl⟩, (Below.refl _ _).alloc (Nat.le_refl _) _⟩
theorem jump_at (c : Int) (s : ByteArray) (w : World) : Calls Tryz.prog 296 #[.int .u8 c, .string s] w fun e w' => ∃ v, e = .returned v ∧ PieceAt w' w.heap.size v (.jp c s) ∧ Below w.heap.size w w' := by
  have hmf : ∀ (fn : Fn) (first cap : Array Value) (w : World), (Instr.makeFunc fn first cap).run Tryz.prog w = .ok (.func fn first cap) w := fun _ _ _ _ => rfl
  have g1 : Below w.heap.size w (w.alloc (.cells #[.int .u8 c] 5)) := (Below.refl _ _).alloc (Nat.le_refl _) _
  have g2 := Lib.hid (g1.alloc (o := .cells #[.string s] 9) g1.size)
  have c1 : Hid (((w.alloc (.cells #[.int .u8 c] 5)).alloc (.cells #[.string s] 9)).cell? ⟨w.heap.size, 0, none⟩ = some (.int .u8 c)) := bel_cell ((Below.refl _ _).alloc (Nat.le_refl _) _) (row_cell (heap_alloc_last _ _) rfl)
  have c2 : Hid (((w.alloc (.cells #[.int .u8 c] 5)).alloc (.cells #[.string s] 9)).cell? ⟨(w.alloc (.cells #[.int .u8 c] 5)).heap.size, 0, none⟩ = some (.string s)) := row_cell (heap_alloc_last _ _) rfl
  have e1 : (w.alloc (.cells #[.int .u8 c] 5)).heap.size = w.heap.size + 1 := by simp
  rw [e1] at c2
  clear g1 e1
  go_enter Tryz.func296, Tryz.ntmps296
  go_wp2
  go_ret
  exact ⟨_, rfl, ⟨w.heap.size, w.heap.size + 1, rfl, Nat.le_refl _, Nat.le_succ _, c1.out, c2.out⟩, g2.out⟩
theorem put_at {w : World} {B k : Nat} {t : Value} {V : Nat → Value} {L : Nat → List XI} (h : PartsAt w B t k V L) (hB : B ≤ w.heap.size) : Calls Tryz.prog 293 #[t] w fun e w' => ∃ v, e = .returned v ∧ PieceAt w' B v (.put k L) ∧ Below w.heap.size w w' := by
  have hmf : ∀ (fn : Fn) (first cap : Array Value) (w : World), (Instr.makeFunc fn first cap).run Tryz.prog w = .ok (.func fn first cap) w := fun _ _ _ _ => rfl
  have H := Lib.hid h
  obtain ⟨x, c, rfl, _⟩ := h.at_
  clear h
  go_enter Tryz.func293, Tryz.ntmps293
  go_wp2
  go_ret
  exact ⟨_, rfl, ⟨w.heap.size, _, V, rfl, hB, row_cell (heap_alloc_last _ _) rfl, H.out.bel ((Below.refl _ _).alloc (Nat.le_refl _) _)⟩, (Below.refl _ _).alloc (Nat.le_refl _) _⟩
/-! .. and called. -/
section
variable {w0 w w' : World} {b : Nat} {G G0 K : Nat → Prop} {q : AS}
theorem mark1_at {s : ByteArray} {bx : Nat} (h : Has w0 w b G0 q) (hc : w.cell? ⟨bx, 0, none⟩ = some (.string s)) (ok : okP q (.mk s)) : Calls Tryz.prog 360 #[.pointer (some ⟨b, 0, none⟩), .pointer (some ⟨bx, 0, none⟩)] w fun e w' => e = .returned (.int .i64 0) ∧ Has w0 w' b G0 (q.mark s) := by
  have C := Lib.hid (h.left fun G K A _ => A7.Mark_yes s ok.1 A ok.2.1 ok.2.2)
  clear h ok
  go_enter Tryz.func360, Tryz.ntmps360
  go_wp2_with fail
  refine C.out.mono ?_; rintro e w1 ⟨rfl, H⟩
  have H := Lib.hid H
  go_wp2_with fail
  go_ret
  exact ⟨rfl, H.out⟩
theorem jump1_at {c : Int} {s : ByteArray} {bc bs : Nat} (h : Has w0 w b G0 q) (h1 : w.cell? ⟨bc, 0, none⟩ = some (.int .u8 c)) (h2 : w.cell? ⟨bs, 0, none⟩ = some (.string s)) (ok : okP q (.jp c s)) : Calls Tryz.prog 365 #[.pointer (some ⟨b, 0, none⟩), .pointer (some ⟨bc, 0, none⟩), .pointer (some ⟨bs, 0, none⟩)] w fun e w' => e = .returned (.int .i64 0) ∧ Has w0 w' b G0 (q.jump 17 c s) := by
  have C := Lib.hid (h.left fun G K A _ => A7.Jump_yes c s A ok.1 ok.2.1 ok.2.2)
  clear h ok
  go_enter Tryz.func365, Tryz.ntmps365
  go_wp2_with fail
  refine C.out.mono ?_; rintro e w1 ⟨rfl, H⟩
  have H := Lib.hid H
  go_wp2_with fail
  go_ret
  exact ⟨rfl, H.out⟩
theorem put1_at {B k bx : Nat} {t : Value} {V : Nat → Value} {L : Nat → List XI} (h : Has w0 w b G0 q) (hx : w.cell? ⟨bx, 0, none⟩ = some t) (P : PartsAt w B t k V L) (ok : okP q (.put k L)) : Calls Tryz.prog 361 #[.pointer (some ⟨b, 0, none⟩), .pointer (some ⟨bx, 0, none⟩)] w fun e w' => e = .returned (.int .i64 0) ∧ Has w0 w' b G0 (doP q (.put k L)) := by
  obtain ⟨hk, hk2, hL, hp, hb, hm, hn⟩ := ok
  obtain ⟨G, K, A, lo, T⟩ := h
  have C := Lib.hid (Concat_at P hk hk2 hL hp)
  have AA := Lib.hid A
  have LO := Lib.hid lo
  have TT := Lib.hid T
  have HP : Hid (∀ W v, Below w.heap.size w W → PartAt W w.heap.size v (catL L k) → Calls Tryz.prog 239 #[.pointer (some ⟨b, 0, none⟩), v] W fun e w' => e = .returned (.int .i64 0) ∧ Has w0 w' b G0 (doP q (.put k L))) := fun W v g hv => by
    have TW : A7.Turns G0 w0 W := TT.out.trans (G' := fun _ => False) (A7.Turns.of_bel g) (fun _ e => e.elim)
    refine (A7.Put_yes (AA.out.bel g) (hv.ins AA.out.lt) (fun i hi => hb _ (gX_mem hi)) hn (fun i hi => hm _ (gX_mem hi))).mono ?_
    rintro e w' ⟨rfl, G', A', T', lo'⟩
    exact ⟨rfl, G', _, A', fun i hi => (lo' i hi).elim (LO.out i) fun e => .inr (Nat.le_trans TW.size e), TW.trans T' LO.out⟩
  clear A lo T P hk hk2 hL hp hb hm hn AA LO TT
  go_enter Tryz.func361, Tryz.ntmps361
  go_wp2_with fail
  refine C.out.mono ?_; rintro e w1 ⟨v, rfl, hv, g1⟩
  have D := Lib.hid (HP.out w1 v g1 hv)
  clear hv g1 C HP
  go_wp2_with fail
  refine D.out.mono ?_; rintro e w2 ⟨rfl, H2⟩
  have H2 := Lib.hid H2
  clear D
  go_wp2_with fail
  go_ret
  exact ⟨rfl, H2.out⟩
theorem fr_one (o : Int) (n : Nat) (L : Nat → List XI) (hL : L 0 = frL o) : catL L 1 = frL o := by show [] ++ L 0 = _; rw [hL]; rfl
theorem frame_piece {o : Int} (ho : o = 22 ∨ o = 23) (h : Has w0 w b G0 q) (hn : q.n + 16 ≤ 100000) {B : Nat} {t : Value} {V : Nat → Value} (P : PartsAt w B t 1 V (fun _ => frL o)) :
    Calls Tryz.prog 231 #[.pointer (some ⟨b, 0, none⟩), t] w fun e w' => e = .returned (.int .i64 0) ∧ Has w0 w' b G0 (q.adds (fun i => (gX (frL o) i).word) 16) := by
  have hmem : ∀ x ∈ frL o, ∃ i, i < 16 ∧ x = W8.sFr o i := by intro x hx; simp only [frL, List.mem_map, List.mem_range] at hx; obtain ⟨i, hi, rfl⟩ := hx; exact ⟨i, hi, rfl⟩
  have := W8.put_at h P (by decide) (by decide) (fun _ => by show (frL o).length ≤ 16; exact Nat.le_of_eq rfl) (by show 0 < (frL o).length; exact Nat.succ_pos 15) (fun x hx => by obtain ⟨i, hi, rfl⟩ := hmem x hx; exact W8.sFr_b ho hi) (fun x hx => by obtain ⟨i, hi, rfl⟩ := hmem x hx; exact W8.sFr_may ho hi) hn
  exact this
theorem Store_at (h : Has w0 w b G0 q) (hn : q.n + 16 ≤ 100000) : Calls Tryz.prog 300 #[.pointer (some ⟨b, 0, none⟩)] w fun e w' => e = .returned (.int .i64 0) ∧ Has w0 w' b G0 (q.adds (fun i => (gX (frL 23) i).word) 16) := by
  have HH := Lib.hid h
  clear h
  go_enter Tryz.func300, Tryz.ntmps300
  go_wp2_with fail
  refine (W8.frame_at 23 w).mono ?_; rintro e w1 ⟨v, rfl, hv, g1⟩
  obtain ⟨x, c, rfl, hx⟩ := id hv
  have P1 := Lib.hid (W8.parts_new (W := w1) (B := w.heap.size) (V := fun _ => .slice (some ⟨x, 0, none⟩) (frL 23).length c) (L := fun _ => frL 23) 1 #[.slice (some ⟨x, 0, none⟩) (frL 23).length c] 285 (fun i hi => by have h0 : i = 0 := (by omega); subst h0; rfl) (fun i hi => hv) g1.size)
  have H1 := Lib.hid ((HH.out.bel g1).bel ((Below.refl _ _).alloc (Nat.le_refl _) (.cells #[.slice (some ⟨x, 0, none⟩) (frL 23).length c] 285)))
  have D := Lib.hid (frame_piece (.inr rfl) H1.out hn P1.out)
  clear hv g1 hx
  go_wp2_with fail
  refine D.out.mono ?_; rintro e w2 ⟨rfl, H2⟩
  have H2 := Lib.hid H2
  clear D
  go_wp2_with fail
  go_ret
  exact ⟨rfl, H2.out⟩
theorem Load_at (h : Has w0 w b G0 q) (hn : q.n + 16 ≤ 100000) : Calls Tryz.prog 312 #[.pointer (some ⟨b, 0, none⟩)] w fun e w' => e = .returned (.int .i64 0) ∧ Has w0 w' b G0 (q.adds (fun i => (gX (frL 22) i).word) 16) := by
  have HH := Lib.hid h
  clear h
  go_enter Tryz.func312, Tryz.ntmps312
  go_wp2_with fail
  refine (W8.frame_at 22 w).mono ?_; rintro e w1 ⟨v, rfl, hv, g1⟩
  obtain ⟨x, c, rfl, hx⟩ := id hv
  have P1 := Lib.hid (W8.parts_new (W := w1) (B := w.heap.size) (V := fun _ => .slice (some ⟨x, 0, none⟩) (frL 22).length c) (L := fun _ => frL 22) 1 #[.slice (some ⟨x, 0, none⟩) (frL 22).length c] 285 (fun i hi => by have h0 : i = 0 := (by omega); subst h0; rfl) (fun i hi => hv) g1.size)
  have H1 := Lib.hid ((HH.out.bel g1).bel ((Below.refl _ _).alloc (Nat.le_refl _) (.cells #[.slice (some ⟨x, 0, none⟩) (frL 22).length c] 285)))
  have D := Lib.hid (frame_piece (.inl rfl) H1.out hn P1.out)
  clear hv g1 hx
  go_wp2_with fail
  refine D.out.mono ?_; rintro e w2 ⟨rfl, H2⟩
  have H2 := Lib.hid H2
  clear D
  go_wp2_with fail
  go_ret
  exact ⟨rfl, H2.out⟩
end
end Go.Proofs.YtmpagjijjahohaaGreatDoor.S10
