/- Package mach as it has landed: Load. Package mach as it has landed: New that makes no machine, Load that is refused, SetPsr, Choose; what is set in the file. -/
import Derived.Test.YtiobgnelhiadbaaGreatDoorVMachGI
import Derived.Test.YtiobgnelhiadbaaGreatDoorVMachGJ
import Derived.Test.YtiobgnelhiadbaaGreatDoorVMachGG
namespace Go.Proofs.YtiobgnelhiadbaaGreatDoor.K6
open Go.RowKit
set_option linter.unusedVariables false
section
variable {w : World} {b fb mb g x : Nat} {cs os : Value} {G : Nat → Prop} {m : MS}
end
end Go.Proofs.YtiobgnelhiadbaaGreatDoor.K6
namespace Go.Proofs.YtiobgnelhiadbaaGreatDoor.K6
open Go.RowKit
set_option linter.unusedVariables false
section
variable {w : World} {b fb mb g x : Nat} {cs os : Value} {G : Nat → Prop} {m : MS}
/-- A machine in another state. -/
def MS.put (m : MS) (c p k f : Int) : MS := { m with cwp := c, pil := p, bank := k, fl := f }
theorem MachP.putted {w : World} (h : MachP w b fb mb g x cs os G m) {c p k f : Int} (hc : P4.Byte c) (hp : P4.Byte p) (hk : P4.Byte k) (hf : P4.Byte f) (hs : P4.State c p k f m.nw) :
    MachP ((((w.setCell ⟨b, 3, none⟩ (.int .u8 c)).setCell ⟨b, 4, none⟩ (.int .u8 p)).setCell ⟨b, 5, none⟩ (.int .u8 k)).setCell ⟨b, 6, none⟩ (.int .u8 f)) b fb mb g x cs os G (m.put c p k f) ∧
    w.grownBy ((((w.setCell ⟨b, 3, none⟩ (.int .u8 c)).setCell ⟨b, 4, none⟩ (.int .u8 p)).setCell ⟨b, 5, none⟩ (.int .u8 k)).setCell ⟨b, 6, none⟩ (.int .u8 f)) (some b) := by
  have g3 := only_cell (only_cell (only_cell (only_cell (b := b) (u := w) (w := w) ⟨rfl, rfl, rfl, Nat.le_refl _, fun _ _ _ => rfl⟩ 3 (.int .u8 c)) 4 (.int .u8 p)) 5 (.int .u8 k)) 6 (.int .u8 f)
  have B := (((h.box.set 3 (.int .u8 c)).set 4 (.int .u8 p)).set 5 (.int .u8 k)).set 6 (.int .u8 f)
  rw [put_cwp, put_pil, put_bank, put_fl] at B
  unfold P4.State at hs
  unfold P4.Byte at hc hp hk hf
  have ok : MOk (m.put c p k f) := { h.ok with c0 := by show 0 ≤ c; omega, c1 := by show c < m.nw; omega, p0 := by show 0 ≤ p; omega, p1 := by show p ≤ 15; omega, b0 := by show 0 ≤ k; omega, b1 := by show k ≤ 16; omega, f0 := by show 0 ≤ f; omega, f1 := by show f ≤ 15; omega }
  exact ⟨h.boxed g3 B ⟨rfl, rfl, rfl, rfl, rfl, rfl, rfl, rfl⟩ ok, g3⟩
set_option maxRecDepth 100000 in
theorem SetPsr_yes (h : MachP w b fb mb g x cs os G m) (c p k f : Int) (hc : P4.Byte c) (hp : P4.Byte p) (hk : P4.Byte k) (hf : P4.Byte f) (hs : P4.State c p k f m.nw) :
    Calls Tryz.prog 61 #[.pointer (some ⟨b, 0, none⟩), .agg #[.int .u8 c, .int .u8 p, .int .u8 k, .int .u8 f]] w fun e w' => e = .returned (.int .i64 0) ∧ MachP w' b fb mb g x cs os G (m.put c p k f) ∧ w.grownBy w' (some b) := by
  have HP := Lib.hid (fun W => P4.Pack_yes c p k f m.nw W hc hp hk hf hs)
  have HPUT : Hid (∀ W, MachP W b fb mb g x cs os G m → MachP ((((W.setCell ⟨b, 3, none⟩ (.int .u8 c)).setCell ⟨b, 4, none⟩ (.int .u8 p)).setCell ⟨b, 5, none⟩ (.int .u8 k)).setCell ⟨b, 6, none⟩ (.int .u8 f)) b fb mb g x cs os G (m.put c p k f) ∧ W.grownBy ((((W.setCell ⟨b, 3, none⟩ (.int .u8 c)).setCell ⟨b, 4, none⟩ (.int .u8 p)).setCell ⟨b, 5, none⟩ (.int .u8 k)).setCell ⟨b, 6, none⟩ (.int .u8 f)) (some b)) := fun W hW => hW.putted hc hp hk hf hs
  generalize P4.pword c p k f = pv at HP
  have A := Lib.hid h
  have gV : Below w.heap.size w (w.alloc (.cells #[.int .u8 c, .int .u8 p, .int .u8 k, .int .u8 f] 24)) := (Below.refl _ _).alloc (Nat.le_refl _) _
  have hrow : (w.alloc (.cells #[.int .u8 c, .int .u8 p, .int .u8 k, .int .u8 f] 24)).heap[w.heap.size]? = some (.cells #[.int .u8 c, .int .u8 p, .int .u8 k, .int .u8 f] 24 (0, 0)) := heap_alloc_last _ _
  have hnb : Hid (w.heap.size ≠ b) := by have := h.lt _ h.gb; unfold Hid; omega
  have AV := Lib.hid (h.bel gV)
  have GV := Lib.hid gV
  have RV := Lib.hid hrow
  obtain ⟨k0, _⟩ := AV.out.cells
  have z0 := row_cell RV.out (j := 0) (v := .int .u8 c) rfl
  have z1 := row_cell RV.out (j := 1) (v := .int .u8 p) rfl
  have z2 := row_cell RV.out (j := 2) (v := .int .u8 k) rfl
  have z3 := row_cell RV.out (j := 3) (v := .int .u8 f) rfl
  clear h gV hrow hs hc hp hk hf
  go_enter Tryz.func61, Tryz.ntmps61
  go_upto_region 1 with (fail)
  generalize w.alloc (.cells #[.int .u8 c, .int .u8 p, .int .u8 k, .int .u8 f] 24) = V at *
  generalize w.heap.size = n0 at RV z0 z1 z2 z3 hnb ⊢
  go_wp2_with fail
  refine (isObject_yes b _ _ k0).mono ?_; rintro e w1 ⟨rfl, rfl⟩
  have HS : Hid (∀ W, Below V.heap.size V W → W.cell? ⟨n0, 0, none⟩ = some (.int .u8 c) ∧ W.cell? ⟨n0, 1, none⟩ = some (.int .u8 p) ∧ W.cell? ⟨n0, 2, none⟩ = some (.int .u8 k) ∧ W.cell? ⟨n0, 3, none⟩ = some (.int .u8 f) ∧ W.cell? ⟨b, 0, none⟩ = some (.pointer (some ⟨fb, 0, none⟩)) ∧ Below V.heap.size V W) := fun W hW => ⟨bel_cell hW z0, bel_cell hW z1, bel_cell hW z2, bel_cell hW z3, bel_cell hW k0, hW⟩
  go_wp2_with fail
  go_region_held3 (fun W => W.cell? ⟨n0, 0, none⟩ = some (.int .u8 c) ∧ W.cell? ⟨n0, 1, none⟩ = some (.int .u8 p) ∧ W.cell? ⟨n0, 2, none⟩ = some (.int .u8 k) ∧ W.cell? ⟨n0, 3, none⟩ = some (.int .u8 f) ∧ W.cell? ⟨b, 0, none⟩ = some (.pointer (some ⟨fb, 0, none⟩)) ∧ Below V.heap.size V W)
    (first
      | exact HS.out _ (Below.refl _ _).drew
      | (go_split_ands; exact HS.out _ (bel_trans (by assumption) gL)))
    (first
      | (go_at_call 127; refine (AV.out.bel (Below.refl _ _).drew).nw_at.mono ?_; rintro e w2 ⟨rfl, gL⟩)
      | (go_at_call 126; refine (HP.out _).mono ?_; rintro e w3 ⟨rfl, gL⟩))
  rename_i hH
  have gH := Lib.hid hH.2.2.2.2.2
  clear hH HS
  have P5 := Lib.hid (AV.out.bel gH.out)
  have z5 := Lib.hid (bel_heap gH.out RV.out)
  have b5 := Lib.hid (bel_trans GV.out gH.out)
  clear AV RV GV gH z0 z1 z2 z3 k0
  obtain ⟨_, _, _, k3, k4, k5, k6, _⟩ := P5.out.cells
  have f3 := P5.out.frozen 3
  have f4 := P5.out.frozen 4
  have f5 := P5.out.frozen 5
  have f6 := P5.out.frozen 6
  have z0 := row_cell z5.out (j := 0) (v := .int .u8 c) rfl
  have z1 := row_cell z5.out (j := 1) (v := .int .u8 p) rfl
  have z2 := row_cell z5.out (j := 2) (v := .int .u8 k) rfl
  have z3 := row_cell z5.out (j := 3) (v := .int .u8 f) rfl
  obtain ⟨P6, g6⟩ := HPUT.out _ P5.out
  replace P6 := Lib.hid P6
  replace g6 := Lib.hid g6
  go_wp2_with fail
  go_ret
  exact ⟨rfl, P6.out, only_trans (bel_only b5.out b) g6.out⟩
/-- A register of any window, of any bank. -/
theorem set_yes (h : MachP w b fb mb g x cs os G m) (c k r v : Int) (hv : W32 v) (hn : F3.Named m.nw c k r) :
    Calls Tryz.prog 63 #[.pointer (some ⟨fb, 0, none⟩), .int .i64 c, .int .i64 k, .int .i64 r, .int .u32 v] w fun e w' => e = .returned (.int .i64 0) ∧ MachP w' b fb mb g x cs os G { m with R := F3.setR m.R m.nw c k r v } ∧ w.grownBy w' (some fb) :=
  (F3.set_at fb m.nw c k r v m.R w h.file h.ok.n2 h.ok.n32 hn).mono fun e w' ⟨e1, e2, e3⟩ => ⟨e1, h.filed e2 e3 (setR_w h.ok.R _ _ _ _ _ hv), e2⟩
/-- A slice of words that has come in. -/
def SlP (w : World) (s : Value) (n : Nat) (f : Nat → Int) : Prop := (s = .slice none 0 0 ∧ n = 0) ∨ ∃ a c, s = .slice (some a) n c ∧ (0 < n → ∃ z o, a = ⟨z, o, none⟩ ∧ ∀ i, i < n → w.cell? ⟨z, o + i, none⟩ = some (.int .u32 (f i)))
theorem SlP.sl {w : World} {s : Value} {n : Nat} {f : Nat → Int} (h : SlP w s n f) : Sl .u32 w s n f := by
  rcases h with ⟨rfl, rfl⟩ | ⟨a, c, rfl, h⟩
  · exact Sl.nil _ _ _ _ _
  · exact ⟨_, _, rfl, fun hn => by obtain ⟨z, o, rfl, hc⟩ := h hn; exact ⟨z, o, rfl, hc⟩⟩
theorem clone_any {w : World} {s : Value} {n : Nat} {f : Nat → Int} (h : SlP w s n f) (hm : n ≤ 1000000) :
    Calls Tryz.prog 71 #[s] w fun e w' => ∃ s', e = .returned s' ∧ w'.ownsRow w.heap.size 22 1 s' n (bsL .u32 f n) ∧ Below w.heap.size w w' := by
  rcases h with ⟨rfl, rfl⟩ | ⟨a, c, rfl, h⟩
  · exact (clone_none w none 0 ⟨rfl, rfl⟩).mono fun e w' ⟨h1, h2⟩ => ⟨_, h1, World.ownsRow_nil _ _ _ _, h2 ▸ Below.refl _ _⟩
  · by_cases hn : 0 < n
    · obtain ⟨z, o, rfl, hc⟩ := h hn
      exact clone_some z o n c f w hm hc
    · obtain rfl : n = 0 := by omega
      obtain ⟨i0, hi, hz0, hz1, hz2⟩ := info_parts words_parts
      clear h hn
      go_enter Tryz.func71, Tryz.ntmps71
      go_wp2
      go_ret
      exact ⟨_, rfl, World.ownsRow_nil _ _ _ _, Below.refl _ _⟩
theorem MachP.chosen {w : World} {s' : Value} {n : Nat} {f : Nat → Int} {B : Nat} (h : MachP w b fb mb g x cs os G m) (own : w.ownsRow B 22 1 s' n (bsL .u32 f n)) (hB : ∀ i, G i → i < B) (hT : ∀ i, isTab i → i < B) (hf : ∀ i, W32 (f i)) :
    ∃ x', MachP (w.setCell ⟨b, 42, none⟩ s') b fb mb g x' s' os (fun i => G i ∨ s'.ownBlock = some i) { m with cl := n, ch := f } ∧ w.grownBy (w.setCell ⟨b, 42, none⟩ s') (some b) ∧ ∀ i, s'.ownBlock = some i → B ≤ i := by
  have k1 : w.grownBy (w.setCell ⟨b, 42, none⟩ s') (some b) := only_cell ⟨rfl, rfl, rfl, Nat.le_refl _, fun _ _ _ => rfl⟩ 42 s'
  have bx := h.box.set 42 s'
  rw [put_cs _ _ _ _ m _ { m with cl := n, ch := f } (fun _ => rfl)] at bx
  have P1 := h.but k1 h.box (by decide) h.gb
  obtain ⟨_, q1, q2, q3, _, q5, q6, q7⟩ := P1
  have low : ∀ i, s'.ownBlock = some i → B ≤ i ∧ i < w.heap.size := fun i hi => own.lt i hi
  have hbb := hB _ h.gb
  have own' : (w.setCell ⟨b, 42, none⟩ s').ownsRow B 22 1 s' n (bsL .u32 f n) := by
    obtain ⟨e0, e | ⟨z, cap, cur, rfl, e1, e2, e3⟩⟩ := own
    · exact ⟨e0, .inl e⟩
    · exact ⟨e0, .inr ⟨z, cap, cur, rfl, e1, only_heap k1 (by omega) e2, e3⟩⟩
  obtain ⟨x', hx'⟩ : ∃ x', CsAt (w.setCell ⟨b, 42, none⟩ s') s' x' n f ∧ (0 < n → s'.ownBlock = some x') := by
    obtain ⟨e0, ⟨rfl, rfl⟩ | ⟨z, cap, cur, rfl, e1, e2, e3, e4, e5, e6⟩⟩ := own'
    · exact ⟨0, ⟨none, 0, rfl, Nat.le_refl _, fun h => absurd h (Nat.lt_irrefl _)⟩, fun h => absurd h (Nat.lt_irrefl _)⟩
    · refine ⟨z, ⟨_, cap, rfl, e3, fun hn => ⟨0, cur, rfl, e2, fun i hi => ?_⟩⟩, fun _ => rfl⟩
      have := bsL_get .u32 f hi
      rw [← e6, List.getElem?_take_of_lt (by omega)] at this
      rw [Nat.zero_add]
      simpa using this
  refine ⟨x', { h with
    box := bx
    file := q1 h.bf
    mbox := q2 h.bm
    row := q3 h.bg
    chs := hx'.1
    outs := q5
    gb := .inl h.gb, gf := .inl h.gf, gm := .inl h.gm, gg := .inl h.gg
    gx := fun hn => .inr (hx'.2 hn)
    go := fun j hj => ⟨.inl (h.go j hj).1, fun hn e => by have h1 := hB _ (h.go j hj).1; have h2 := (low _ (hx'.2 hn)).1; omega⟩
    lt := fun i hi => hi.elim (q6 i) fun e => Nat.lt_of_lt_of_le (low i e).2 k1.size
    far := fun i hi ht => hi.elim (fun e => h.far i e ht) fun e => by have h1 := (low i e).1; have h2 := hT i ht; omega
    tab := q7
    ok := { h.ok with ch := hf } }, k1, fun i hi => (low i hi).1⟩
theorem Choose_at {s : Value} {n : Nat} {f : Nat → Int} (h : MachP w b fb mb g x cs os G m) (hs : SlP w s n f) (hf : ∀ i, W32 (f i)) (hn : n ≤ 1000000) :
    Calls Tryz.prog 65 #[.pointer (some ⟨b, 0, none⟩), s] w fun e w' => e = .returned (.int .i64 0) ∧ ∃ x' cs' G', MachP w' b fb mb g x' cs' os G' { m with cl := n, ch := f } ∧ Turns G w w' ∧ ∀ i, G' i → G i ∨ w.heap.size ≤ i := by
  obtain ⟨k0, _⟩ := h.cells
  have A := Lib.hid h
  have C := Lib.hid (clone_any hs hn)
  have HF := Lib.hid hf
  clear h hs hf
  go_enter Tryz.func65, Tryz.ntmps65
  go_wp2_with fail
  refine (isObject_yes b _ _ k0).mono ?_; rintro e w1 ⟨rfl, rfl⟩
  go_wp2_with fail
  refine C.out.mono ?_; rintro e w2 ⟨s', rfl, own, g2⟩
  have P2 := A.out.bel g2
  obtain ⟨_, _, _, _, _, _, _, _, k42, _⟩ := P2.cells
  have f42 := P2.frozen 42
  obtain ⟨p, c, rfl⟩ := lenOf_own own
  obtain ⟨x', P3, g3, low⟩ := P2.chosen own A.out.lt (fun i hi => A.out.tab.lt hi) HF.out
  have P3 := Lib.hid P3
  have G3 := Lib.hid g3
  have G2 := Lib.hid g2
  have LO := Lib.hid low
  clear own g2 g3 low P2 k0
  go_wp2_with fail
  go_ret
  exact ⟨rfl, x', _, _, P3.out, (Turns.of_bel G2.out).trans (G' := G) (Turns.of_only G3.out A.out.gb) (fun _ e => .inl e), fun i hi => hi.imp id (LO.out i)⟩
end
end Go.Proofs.YtiobgnelhiadbaaGreatDoor.K6
