/- Package mach as it has landed: Load. Package mach as it has landed: New that makes no machine, Load that is refused, SetPsr, Choose; what is set in the file. made (layer 6): a machine out of a start; the document's beside it, as far as its shape goes. made (layer 6), walked: a machine out of a start. -/
import Derived.Test.YtoecanjhkbeemaaGreatDoorMachGI
import Derived.Test.YtoecanjhkbeemaaGreatDoorMachGJ
import Derived.Test.YtoecanjhkbeemaaGreatDoorMachGG
import Derived.Test.YtoecanjhkbeemaaGreatDoorMachGRf
import Derived.StillTailTactics
namespace Go.Proofs.YtoecanjhkbeemaaGreatDoor.K6
open Go.RowKit
set_option linter.unusedVariables false
section
variable {w : World} {b fb mb g x : Nat} {cs os : Value} {G : Nat → Prop} {m : MS}
theorem Load_at {t : Value} {l : Nat} {f : Nat → Int} (h : MachP w b fb mb g x cs os G m) (hs : Sl .u32 w t l f) (hf : ∀ i, W32 (f i)) (he : spE m.sz 0 l = 0) :
    Calls Tryz.prog 46 #[.pointer (some ⟨b, 0, none⟩), t] w fun e w' => e = .returned (.int .i64 0) ∧ MachP w' b fb mb g x cs os G { m with f := ptB m.f 0 f l } ∧ w.grownBy w' (some g) := by
  obtain ⟨k0, k1, _⟩ := h.cells
  have C := Lib.hid (M5.put_yes 0 h.mem hs hf he)
  have P := Lib.hid h
  clear h hs hf he
  go_enter Tryz.func46, Tryz.ntmps46
  go_wp2_with fail
  refine (isObject_yes b _ _ k0).mono ?_; rintro e w1 ⟨rfl, rfl⟩
  go_wp2_with fail
  refine (show Calls _ _ #[_, .int .u32 0, _] _ _ from C.out).mono ?_; rintro e w2 ⟨rfl, M, g2⟩
  have P2 := Lib.hid (P.out.memd g2 M)
  have G2 := Lib.hid g2
  clear M g2
  go_wp2_with fail
  go_ret
  exact ⟨rfl, P2.out, G2.out⟩
end
end Go.Proofs.YtoecanjhkbeemaaGreatDoor.K6
namespace Go.Proofs.YtoecanjhkbeemaaGreatDoor.K6
open Go.RowKit
set_option linter.unusedVariables false
theorem New_no (n sz : Int) (w : World) (h : (n < 2 ∨ 32 < n) ∨ ¬ M5.MaySize sz) :
    Calls Tryz.prog 45 #[.int .i64 n, .int .i64 sz] w fun e w' => e = .returned (.tuple #[.pointer none, .int .i64 2]) ∧ Below w.heap.size w w' := by
  by_cases hn : n < 2 ∨ 32 < n
  · have HN := Lib.hid hn
    clear h hn
    go_enter Tryz.func45, Tryz.ntmps45
    go_wp2_with fail
    refine (F3.new_bad n w HN.out).mono ?_; rintro e w1 ⟨rfl, rfl⟩
    go_wp2_with fail
    go_ret2
    exact ⟨rfl, Below.refl _ _⟩
  · have HS : Hid (¬ M5.MaySize sz) := h.elim (fun e => absurd e hn) id
    have h2 : 2 ≤ n := by omega
    have h32 : n ≤ 32 := by omega
    clear h hn
    go_enter Tryz.func45, Tryz.ntmps45
    go_wp2_with fail
    refine (F3.new_at n w h2 h32).mono ?_; rintro e w1 ⟨rfl, g1, F1⟩
    have G1 := Lib.hid g1
    clear g1 F1
    go_wp2_with fail
    refine (M5.new_no sz w1 HS.out).mono ?_; rintro e w2 ⟨rfl, g2⟩
    have G2 := Lib.hid (bel_trans G1.out g2)
    clear g2 G1
    go_wp2_with fail
    go_ret2
    exact ⟨rfl, G2.out⟩
section
variable {w : World} {b fb mb g x : Nat} {cs os : Value} {G : Nat → Prop} {m : MS}
theorem Load_no {t : Value} {l : Nat} {f : Nat → Int} (h : MachP w b fb mb g x cs os G m) (hs : Sl .u32 w t l f) (he : spE m.sz 0 l ≠ 0) :
    Calls Tryz.prog 46 #[.pointer (some ⟨b, 0, none⟩), t] w fun e w' => e = .returned (.int .i64 (spE m.sz 0 l)) ∧ Below w.heap.size w w' := by
  obtain ⟨k0, k1, _⟩ := h.cells
  have C := Lib.hid (M5.put_no 0 h.mem hs ⟨by decide, by decide⟩ he)
  clear h hs he
  go_enter Tryz.func46, Tryz.ntmps46
  go_wp2_with fail
  refine (isObject_yes b _ _ k0).mono ?_; rintro e w1 ⟨rfl, rfl⟩
  go_wp2_with fail
  refine C.out.mono ?_; rintro e w2 ⟨rfl, g2⟩
  have G2 := Lib.hid g2
  clear g2
  go_wp2_with fail
  go_ret
  exact ⟨rfl, G2.out⟩
/-- A machine in another state. -/
def MS.put (m : MS) (c p k f : Int) : MS := { m with cwp := c, pil := p, bank := k, fl := f }
theorem MachP.putted {w : World} (h : MachP w b fb mb g x cs os G m) {c p k f : Int} (hc : P4.Byte c) (hp : P4.Byte p) (hk : P4.Byte k) (hf : P4.Byte f) (hs : P4.State c p k f m.nw) :
    MachP ((((w.setCell ⟨b, 3, none⟩ (.int .u8 c)).setCell ⟨b, 4, none⟩ (.int .u8 p)).setCell ⟨b, 5, none⟩ (.int .u8 k)).setCell ⟨b, 6, none⟩ (.int .u8 f)) b fb mb g x cs os G (m.put c p k f) ∧
    w.grownBy ((((w.setCell ⟨b, 3, none⟩ (.int .u8 c)).setCell ⟨b, 4, none⟩ (.int .u8 p)).setCell ⟨b, 5, none⟩ (.int .u8 k)).setCell ⟨b, 6, none⟩ (.int .u8 f)) (some b) := by
  have g3 := only_cell (only_cell (only_cell (only_cell (b := b) (u := w) (w := w) ⟨rfl, rfl, rfl, Nat.le_refl _, fun _ _ _ => rfl⟩ 3 (.int .u8 c)) 4 (.int .u8 p)) 5 (.int .u8 k)) 6 (.int .u8 f)
  have B := (((h.box.set 3 (.int .u8 c)).set 4 (.int .u8 p)).set 5 (.int .u8 k)).set 6 (.int .u8 f)
  rw [put_cwp, put_pil, put_bank, put_fl] at B
  unfold P4.State at hs
  unfold P4.Byte at hc hp hk hf
  have ok : MOk (m.put c p k f) := { h.ok with c0 := by show 0 ≤ c; omega, c1 := by show c < m.nw; omega, p0 := by show 0 ≤ p; omega, p1 := by show p ≤ 15; omega, b0 := by show 0 ≤ k; omega, b1 := by show k ≤ 16; omega, f0 := by show 0 ≤ f; omega, f1 := by show f ≤ 15; omega }
  exact ⟨h.boxed g3 B ⟨rfl, rfl, rfl, rfl, rfl, rfl, rfl, rfl⟩ ok, g3⟩
set_option maxRecDepth 100000 in
theorem SetPsr_yes (h : MachP w b fb mb g x cs os G m) (c p k f : Int) (hc : P4.Byte c) (hp : P4.Byte p) (hk : P4.Byte k) (hf : P4.Byte f) (hs : P4.State c p k f m.nw) :
    Calls Tryz.prog 48 #[.pointer (some ⟨b, 0, none⟩), .agg #[.int .u8 c, .int .u8 p, .int .u8 k, .int .u8 f]] w fun e w' => e = .returned (.int .i64 0) ∧ MachP w' b fb mb g x cs os G (m.put c p k f) ∧ w.grownBy w' (some b) := by
  have HP := Lib.hid (fun W => P4.Pack_yes c p k f m.nw W hc hp hk hf hs)
  have HPUT : Hid (∀ W, MachP W b fb mb g x cs os G m → MachP ((((W.setCell ⟨b, 3, none⟩ (.int .u8 c)).setCell ⟨b, 4, none⟩ (.int .u8 p)).setCell ⟨b, 5, none⟩ (.int .u8 k)).setCell ⟨b, 6, none⟩ (.int .u8 f)) b fb mb g x cs os G (m.put c p k f) ∧ W.grownBy ((((W.setCell ⟨b, 3, none⟩ (.int .u8 c)).setCell ⟨b, 4, none⟩ (.int .u8 p)).setCell ⟨b, 5, none⟩ (.int .u8 k)).setCell ⟨b, 6, none⟩ (.int .u8 f)) (some b)) := fun W hW => hW.putted hc hp hk hf hs
  generalize P4.pword c p k f = pv at HP
  have A := Lib.hid h
  have gV : Below w.heap.size w (w.alloc (.cells #[.int .u8 c, .int .u8 p, .int .u8 k, .int .u8 f] 24)) := (Below.refl _ _).alloc (Nat.le_refl _) _
  have hrow : (w.alloc (.cells #[.int .u8 c, .int .u8 p, .int .u8 k, .int .u8 f] 24)).heap[w.heap.size]? = some (.cells #[.int .u8 c, .int .u8 p, .int .u8 k, .int .u8 f] 24 (0, 0)) := heap_alloc_last _ _
  have hnb : Hid (w.heap.size ≠ b) := by have := h.lt _ h.gb; unfold Hid; omega
  have AV := Lib.hid (h.bel gV)
  have GV := Lib.hid gV
  have RV := Lib.hid hrow
  obtain ⟨k0, _⟩ := AV.out.cells
  have z0 := row_cell RV.out (j := 0) (v := .int .u8 c) rfl
  have z1 := row_cell RV.out (j := 1) (v := .int .u8 p) rfl
  have z2 := row_cell RV.out (j := 2) (v := .int .u8 k) rfl
  have z3 := row_cell RV.out (j := 3) (v := .int .u8 f) rfl
  clear h gV hrow hs hc hp hk hf
  go_enter Tryz.func48, Tryz.ntmps48
  go_upto_region 1 with (fail)
  generalize w.alloc (.cells #[.int .u8 c, .int .u8 p, .int .u8 k, .int .u8 f] 24) = V at *
  generalize w.heap.size = n0 at RV z0 z1 z2 z3 hnb ⊢
  go_wp2_with fail
  refine (isObject_yes b _ _ k0).mono ?_; rintro e w1 ⟨rfl, rfl⟩
  have HS : Hid (∀ W, Below V.heap.size V W → W.cell? ⟨n0, 0, none⟩ = some (.int .u8 c) ∧ W.cell? ⟨n0, 1, none⟩ = some (.int .u8 p) ∧ W.cell? ⟨n0, 2, none⟩ = some (.int .u8 k) ∧ W.cell? ⟨n0, 3, none⟩ = some (.int .u8 f) ∧ W.cell? ⟨b, 0, none⟩ = some (.pointer (some ⟨fb, 0, none⟩)) ∧ Below V.heap.size V W) := fun W hW => ⟨bel_cell hW z0, bel_cell hW z1, bel_cell hW z2, bel_cell hW z3, bel_cell hW k0, hW⟩
  go_wp2_with fail
  go_region_held3 (fun W => W.cell? ⟨n0, 0, none⟩ = some (.int .u8 c) ∧ W.cell? ⟨n0, 1, none⟩ = some (.int .u8 p) ∧ W.cell? ⟨n0, 2, none⟩ = some (.int .u8 k) ∧ W.cell? ⟨n0, 3, none⟩ = some (.int .u8 f) ∧ W.cell? ⟨b, 0, none⟩ = some (.pointer (some ⟨fb, 0, none⟩)) ∧ Below V.heap.size V W)
    (first
      | exact HS.out _ (Below.refl _ _).drew
      | (go_split_ands; exact HS.out _ (bel_trans (by assumption) gL)))
    (first
      | (go_at_call 102; refine (AV.out.bel (Below.refl _ _).drew).nw_at.mono ?_; rintro e w2 ⟨rfl, gL⟩)
      | (go_at_call 101; refine (HP.out _).mono ?_; rintro e w3 ⟨rfl, gL⟩))
  rename_i hH
  have gH := Lib.hid hH.2.2.2.2.2
  clear hH HS
  have P5 := Lib.hid (AV.out.bel gH.out)
  have z5 := Lib.hid (bel_heap gH.out RV.out)
  have b5 := Lib.hid (bel_trans GV.out gH.out)
  clear AV RV GV gH z0 z1 z2 z3 k0
  obtain ⟨_, _, _, k3, k4, k5, k6, _⟩ := P5.out.cells
  have f3 := P5.out.frozen 3
  have f4 := P5.out.frozen 4
  have f5 := P5.out.frozen 5
  have f6 := P5.out.frozen 6
  have z0 := row_cell z5.out (j := 0) (v := .int .u8 c) rfl
  have z1 := row_cell z5.out (j := 1) (v := .int .u8 p) rfl
  have z2 := row_cell z5.out (j := 2) (v := .int .u8 k) rfl
  have z3 := row_cell z5.out (j := 3) (v := .int .u8 f) rfl
  obtain ⟨P6, g6⟩ := HPUT.out _ P5.out
  replace P6 := Lib.hid P6
  replace g6 := Lib.hid g6
  go_wp2_with fail
  go_ret
  exact ⟨rfl, P6.out, only_trans (bel_only b5.out b) g6.out⟩
set_option maxRecDepth 100000 in
theorem SetPsr_no (h : MachP w b fb mb g x cs os G m) (c p k f : Int) (hc : P4.Byte c) (hp : P4.Byte p) (hk : P4.Byte k) (hf : P4.Byte f) (hs : ¬ P4.State c p k f m.nw) :
    Calls Tryz.prog 48 #[.pointer (some ⟨b, 0, none⟩), .agg #[.int .u8 c, .int .u8 p, .int .u8 k, .int .u8 f]] w fun e w' => e = .returned (.int .i64 2) ∧ Below w.heap.size w w' := by
  have HP := Lib.hid (fun W => P4.Pack_no c p k f m.nw W hc hp hk hf hs)
  
  have A := Lib.hid h
  have gV : Below w.heap.size w (w.alloc (.cells #[.int .u8 c, .int .u8 p, .int .u8 k, .int .u8 f] 24)) := (Below.refl _ _).alloc (Nat.le_refl _) _
  have hrow : (w.alloc (.cells #[.int .u8 c, .int .u8 p, .int .u8 k, .int .u8 f] 24)).heap[w.heap.size]? = some (.cells #[.int .u8 c, .int .u8 p, .int .u8 k, .int .u8 f] 24 (0, 0)) := heap_alloc_last _ _
  have hnb : Hid (w.heap.size ≠ b) := by have := h.lt _ h.gb; unfold Hid; omega
  have AV := Lib.hid (h.bel gV)
  have GV := Lib.hid gV
  have RV := Lib.hid hrow
  obtain ⟨k0, _⟩ := AV.out.cells
  have z0 := row_cell RV.out (j := 0) (v := .int .u8 c) rfl
  have z1 := row_cell RV.out (j := 1) (v := .int .u8 p) rfl
  have z2 := row_cell RV.out (j := 2) (v := .int .u8 k) rfl
  have z3 := row_cell RV.out (j := 3) (v := .int .u8 f) rfl
  clear h gV hrow hs hc hp hk hf
  go_enter Tryz.func48, Tryz.ntmps48
  go_upto_region 1 with (fail)
  generalize w.alloc (.cells #[.int .u8 c, .int .u8 p, .int .u8 k, .int .u8 f] 24) = V at *
  generalize w.heap.size = n0 at RV z0 z1 z2 z3 hnb ⊢
  go_wp2_with fail
  refine (isObject_yes b _ _ k0).mono ?_; rintro e w1 ⟨rfl, rfl⟩
  have HS : Hid (∀ W, Below V.heap.size V W → W.cell? ⟨n0, 0, none⟩ = some (.int .u8 c) ∧ W.cell? ⟨n0, 1, none⟩ = some (.int .u8 p) ∧ W.cell? ⟨n0, 2, none⟩ = some (.int .u8 k) ∧ W.cell? ⟨n0, 3, none⟩ = some (.int .u8 f) ∧ W.cell? ⟨b, 0, none⟩ = some (.pointer (some ⟨fb, 0, none⟩)) ∧ Below V.heap.size V W) := fun W hW => ⟨bel_cell hW z0, bel_cell hW z1, bel_cell hW z2, bel_cell hW z3, bel_cell hW k0, hW⟩
  go_wp2_with fail
  go_region_held3 (fun W => W.cell? ⟨n0, 0, none⟩ = some (.int .u8 c) ∧ W.cell? ⟨n0, 1, none⟩ = some (.int .u8 p) ∧ W.cell? ⟨n0, 2, none⟩ = some (.int .u8 k) ∧ W.cell? ⟨n0, 3, none⟩ = some (.int .u8 f) ∧ W.cell? ⟨b, 0, none⟩ = some (.pointer (some ⟨fb, 0, none⟩)) ∧ Below V.heap.size V W)
    (first
      | exact HS.out _ (Below.refl _ _).drew
      | (go_split_ands; exact HS.out _ (bel_trans (by assumption) gL)))
    (first
      | (go_at_call 102; refine (AV.out.bel (Below.refl _ _).drew).nw_at.mono ?_; rintro e w2 ⟨rfl, gL⟩)
      | (go_at_call 101; refine (HP.out _).mono ?_; rintro e w3 ⟨rfl, gL⟩))
  rename_i hH
  have gH := Lib.hid hH.2.2.2.2.2
  clear hH HS
  go_wp2_with fail
  go_ret
  exact ⟨rfl, bel_trans GV.out gH.out⟩
/-- A register of any window, of any bank. -/
theorem set_yes (h : MachP w b fb mb g x cs os G m) (c k r v : Int) (hv : W32 v) (hn : F3.Named m.nw c k r) :
    Calls Tryz.prog 42 #[.pointer (some ⟨fb, 0, none⟩), .int .i64 c, .int .i64 k, .int .i64 r, .int .u32 v] w fun e w' => e = .returned (.int .i64 0) ∧ MachP w' b fb mb g x cs os G { m with R := F3.setR m.R m.nw c k r v } ∧ w.grownBy w' (some fb) :=
  (F3.set_at fb m.nw c k r v m.R w h.file h.ok.n2 h.ok.n32 hn).mono fun e w' ⟨e1, e2, e3⟩ => ⟨e1, h.filed e2 e3 (setR_w h.ok.R _ _ _ _ _ hv), e2⟩
theorem set_no (h : MachP w b fb mb g x cs os G m) (c k r v : Int) (hn : ¬ F3.Named m.nw c k r) :
    Calls Tryz.prog 42 #[.pointer (some ⟨fb, 0, none⟩), .int .i64 c, .int .i64 k, .int .i64 r, .int .u32 v] w fun e w' => e = .returned (.int .i64 2) ∧ w = w' :=
  F3.set_bad fb m.nw c k r v m.R w h.file h.ok.n2 hn
/-- A slice of words that has come in. -/
def SlP (w : World) (s : Value) (n : Nat) (f : Nat → Int) : Prop := (s = .slice none 0 0 ∧ n = 0) ∨ ∃ a c, s = .slice (some a) n c ∧ (0 < n → ∃ z o, a = ⟨z, o, none⟩ ∧ ∀ i, i < n → w.cell? ⟨z, o + i, none⟩ = some (.int .u32 (f i)))
theorem SlP.bel {w w' : World} {s : Value} {n : Nat} {f : Nat → Int} (h : SlP w s n f) (k : Below w.heap.size w w') : SlP w' s n f := by
  rcases h with h | ⟨a, c, rfl, h⟩
  · exact .inl h
  · exact .inr ⟨a, c, rfl, fun hn => by obtain ⟨z, o, rfl, hc⟩ := h hn; exact ⟨z, o, rfl, fun i hi => bel_cell k (hc i hi)⟩⟩
theorem SlP.sl {w : World} {s : Value} {n : Nat} {f : Nat → Int} (h : SlP w s n f) : Sl .u32 w s n f := by
  rcases h with ⟨rfl, rfl⟩ | ⟨a, c, rfl, h⟩
  · exact Sl.nil _ _ _ _ _
  · exact ⟨_, _, rfl, fun hn => by obtain ⟨z, o, rfl, hc⟩ := h hn; exact ⟨z, o, rfl, hc⟩⟩
theorem clone_any {w : World} {s : Value} {n : Nat} {f : Nat → Int} (h : SlP w s n f) (hm : n ≤ 1000000) :
    Calls Tryz.prog 57 #[s] w fun e w' => ∃ s', e = .returned s' ∧ w'.ownsRow w.heap.size 22 1 s' n (bsL .u32 f n) ∧ Below w.heap.size w w' := by
  rcases h with ⟨rfl, rfl⟩ | ⟨a, c, rfl, h⟩
  · exact (clone_none w none 0 ⟨rfl, rfl⟩).mono fun e w' ⟨h1, h2⟩ => ⟨_, h1, World.ownsRow_nil _ _ _ _, h2 ▸ Below.refl _ _⟩
  · by_cases hn : 0 < n
    · obtain ⟨z, o, rfl, hc⟩ := h hn
      exact clone_some z o n c f w hm hc
    · obtain rfl : n = 0 := by omega
      obtain ⟨i0, hi, hz0, hz1, hz2⟩ := info_parts words_parts
      clear h hn
      go_enter Tryz.func57, Tryz.ntmps57
      go_wp2
      go_ret
      exact ⟨_, rfl, World.ownsRow_nil _ _ _ _, Below.refl _ _⟩
theorem MachP.chosen {w : World} {s' : Value} {n : Nat} {f : Nat → Int} {B : Nat} (h : MachP w b fb mb g x cs os G m) (own : w.ownsRow B 22 1 s' n (bsL .u32 f n)) (hB : ∀ i, G i → i < B) (hT : ∀ i, isTab i → i < B) (hf : ∀ i, W32 (f i)) :
    ∃ x', MachP (w.setCell ⟨b, 42, none⟩ s') b fb mb g x' s' os (fun i => G i ∨ s'.ownBlock = some i) { m with cl := n, ch := f } ∧ w.grownBy (w.setCell ⟨b, 42, none⟩ s') (some b) ∧ ∀ i, s'.ownBlock = some i → B ≤ i := by
  have k1 : w.grownBy (w.setCell ⟨b, 42, none⟩ s') (some b) := only_cell ⟨rfl, rfl, rfl, Nat.le_refl _, fun _ _ _ => rfl⟩ 42 s'
  have bx := h.box.set 42 s'
  rw [put_cs _ _ _ _ m _ { m with cl := n, ch := f } (fun _ => rfl)] at bx
  have P1 := h.but k1 h.box (by decide) h.gb
  obtain ⟨_, q1, q2, q3, _, q5, q6, q7⟩ := P1
  have low : ∀ i, s'.ownBlock = some i → B ≤ i ∧ i < w.heap.size := fun i hi => own.lt i hi
  have hbb := hB _ h.gb
  have own' : (w.setCell ⟨b, 42, none⟩ s').ownsRow B 22 1 s' n (bsL .u32 f n) := by
    obtain ⟨e0, e | ⟨z, cap, cur, rfl, e1, e2, e3⟩⟩ := own
    · exact ⟨e0, .inl e⟩
    · exact ⟨e0, .inr ⟨z, cap, cur, rfl, e1, only_heap k1 (by omega) e2, e3⟩⟩
  obtain ⟨x', hx'⟩ : ∃ x', CsAt (w.setCell ⟨b, 42, none⟩ s') s' x' n f ∧ (0 < n → s'.ownBlock = some x') := by
    obtain ⟨e0, ⟨rfl, rfl⟩ | ⟨z, cap, cur, rfl, e1, e2, e3, e4, e5, e6⟩⟩ := own'
    · exact ⟨0, ⟨none, 0, rfl, Nat.le_refl _, fun h => absurd h (Nat.lt_irrefl _)⟩, fun h => absurd h (Nat.lt_irrefl _)⟩
    · refine ⟨z, ⟨_, cap, rfl, e3, fun hn => ⟨0, cur, rfl, e2, fun i hi => ?_⟩⟩, fun _ => rfl⟩
      have := bsL_get .u32 f hi
      rw [← e6, List.getElem?_take_of_lt (by omega)] at this
      rw [Nat.zero_add]
      simpa using this
  refine ⟨x', { h with
    box := bx
    file := q1 h.bf
    mbox := q2 h.bm
    row := q3 h.bg
    chs := hx'.1
    outs := q5
    gb := .inl h.gb, gf := .inl h.gf, gm := .inl h.gm, gg := .inl h.gg
    gx := fun hn => .inr (hx'.2 hn)
    go := fun j hj => ⟨.inl (h.go j hj).1, fun hn e => by have h1 := hB _ (h.go j hj).1; have h2 := (low _ (hx'.2 hn)).1; omega⟩
    lt := fun i hi => hi.elim (q6 i) fun e => Nat.lt_of_lt_of_le (low i e).2 k1.size
    far := fun i hi ht => hi.elim (fun e => h.far i e ht) fun e => by have h1 := (low i e).1; have h2 := hT i ht; omega
    tab := q7
    ok := { h.ok with ch := hf } }, k1, fun i hi => (low i hi).1⟩
theorem Choose_at {s : Value} {n : Nat} {f : Nat → Int} (h : MachP w b fb mb g x cs os G m) (hs : SlP w s n f) (hf : ∀ i, W32 (f i)) (hn : n ≤ 1000000) :
    Calls Tryz.prog 51 #[.pointer (some ⟨b, 0, none⟩), s] w fun e w' => e = .returned (.int .i64 0) ∧ ∃ x' cs' G', MachP w' b fb mb g x' cs' os G' { m with cl := n, ch := f } ∧ Turns G w w' ∧ ∀ i, G' i → G i ∨ w.heap.size ≤ i := by
  obtain ⟨k0, _⟩ := h.cells
  have A := Lib.hid h
  have C := Lib.hid (clone_any hs hn)
  have HF := Lib.hid hf
  clear h hs hf
  go_enter Tryz.func51, Tryz.ntmps51
  go_wp2_with fail
  refine (isObject_yes b _ _ k0).mono ?_; rintro e w1 ⟨rfl, rfl⟩
  go_wp2_with fail
  refine C.out.mono ?_; rintro e w2 ⟨s', rfl, own, g2⟩
  have P2 := A.out.bel g2
  obtain ⟨_, _, _, _, _, _, _, _, k42, _⟩ := P2.cells
  have f42 := P2.frozen 42
  obtain ⟨p, c, rfl⟩ := lenOf_own own
  obtain ⟨x', P3, g3, low⟩ := P2.chosen own A.out.lt (fun i hi => A.out.tab.lt hi) HF.out
  have P3 := Lib.hid P3
  have G3 := Lib.hid g3
  have G2 := Lib.hid g2
  have LO := Lib.hid low
  clear own g2 g3 low P2 k0
  go_wp2_with fail
  go_ret
  exact ⟨rfl, x', _, _, P3.out, (Turns.of_bel G2.out).trans (G' := G) (Turns.of_only G3.out A.out.gb) (fun _ e => .inl e), fun i hi => hi.imp id (LO.out i)⟩
end
end Go.Proofs.YtoecanjhkbeemaaGreatDoor.K6
namespace Go.Proofs.YtoecanjhkbeemaaGreatDoor.K6
open Go.RowKit
set_option linter.unusedVariables false
/-- A register that is set. -/
structure RG where
  x : Int
  k : Int
  r : Int
  v : Int
open Classical in
noncomputable def mPut (m : MS) (l : Nat) (f : Nat → Int) : MS := if spE m.sz 0 l = 0 then { m with f := ptB m.f 0 f l } else m
open Classical in
noncomputable def mPsr (m : MS) (c p k f : Int) : MS := if P4.State c p k f m.nw then m.put c p k f else m
def mWim (m : MS) (u : Int) : MS := if (wx u m.nw).isSome then m.inv u else m
open Classical in
noncomputable def mReg (m : MS) (a : RG) : MS := if F3.Named m.nw a.x a.k a.r then { m with R := F3.setR m.R m.nw a.x a.k a.r a.v } else m
noncomputable def mRegs (m : MS) (A : Nat → RG) : Nat → MS
  | 0 => m
  | i + 1 => mReg (mRegs m A i) (A i)
/-- What a start is made of. -/
structure ST where
  n : Int
  sz : Int
  pc : Int
  c : Int
  p : Int
  k : Int
  f : Int
  wim : Int
  lw : Nat
  fw : Nat → Int
  lr : Nat
  A : Nat → RG
  lc : Nat
  fc : Nat → Int
noncomputable def mMade (s : ST) : MS := { mRegs (mWim (mPsr ((mPut (mnew s.n s.sz.toNat) s.lw s.fw).jmp s.pc) s.c s.p s.k s.f) s.wim) s.A s.lr with cl := s.lc, ch := s.fc }
/-- Can there be a machine? -/
def ST.may (s : ST) : Prop := 2 ≤ s.n ∧ s.n ≤ 32 ∧ M5.MaySize s.sz
structure STB (s : ST) : Prop where
  pc : W32 s.pc
  c : P4.Byte s.c
  p : P4.Byte s.p
  k : P4.Byte s.k
  f : P4.Byte s.f
  wim : W32 s.wim
  fw : ∀ i, W32 (s.fw i)
  A : ∀ i, i < s.lr → W32 (s.A i).v
  fc : ∀ i, W32 (s.fc i)
/-- Registers in a slice. -/
def Rgs (w : World) (l : Value) (n : Nat) (A : Nat → RG) : Prop :=
  ∃ p c, l = .slice p n c ∧ (0 < n → ∃ b o, p = some ⟨b, o, none⟩ ∧ ∀ i, i < n → w.cell? ⟨b, o + i * 4, none⟩ = some (.int .i64 (A i).x) ∧ w.cell? ⟨b, o + i * 4 + 1, none⟩ = some (.int .i64 (A i).k) ∧ w.cell? ⟨b, o + i * 4 + 2, none⟩ = some (.int .i64 (A i).r) ∧ w.cell? ⟨b, o + i * 4 + 3, none⟩ = some (.int .u32 (A i).v))
/-- A start as it lies in world w, by value. -/
structure StAt (w : World) (s : ST) (vw vr vc : Value) : Prop where
  sw : Sl .u32 w vw s.lw s.fw
  sr : Rgs w vr s.lr s.A
  sc : SlP w vc s.lc s.fc
def srow (s : ST) (vw vr vc : Value) : Array Value := #[.int .i64 s.n, .int .i64 s.sz, .int .u32 s.pc, .int .u8 s.c, .int .u8 s.p, .int .u8 s.k, .int .u8 s.f, .int .u32 s.wim, vw, vr, vc]
/-- The document's machine, as far as its shape goes; its list lies in no block of G's. -/
def WQ (V : World) (z : Nat) (n : Int) (L : Nat) (G : Nat → Prop) : Prop := ∃ q : RV, RowQ V z q ∧ q.Ok ∧ q.nw = n ∧ q.fn = n ∧ (∃ l : List F3.Ent, F3.LAt V q.fs l ∧ l.length ≤ L) ∧ ∀ j, q.fs.ownBlock = some j → ¬ G j
/-- What made has in hand. -/
structure MQ (w V : World) (z : Nat) (s : ST) (vw vr vc : Value) (b fb mb g x : Nat) (cs os : Value) (G : Nat → Prop) (m : MS) (L : Nat) : Prop where
  P : MachP V b fb mb g x cs os G m
  q : WQ V z s.n L G
  X : V.heap[w.heap.size]? = some (.cells (srow s vw vr vc) 28 (0, 0))
  z2 : RowQ V (w.heap.size + 1) rzero
  gz : ¬ G z
  gx : ¬ G w.heap.size
  g2 : ¬ G (w.heap.size + 1)
  zx : w.heap.size + 1 < z
  low : ∀ i, G i → w.heap.size ≤ i
  g : Below w.heap.size w V
  t : Tabs w
section
variable {w V V' : World} {z : Nat} {s : ST} {vw vr vc : Value} {b fb mb g x : Nat} {cs os : Value} {G : Nat → Prop} {m : MS} {L : Nat}
theorem lat_same {W W' : World} {v : Value} {l : List F3.Ent} (h : F3.LAt W v l) (k : ∀ j, v.ownBlock = some j → W'.heap[j]? = W.heap[j]?) : F3.LAt W' v l := by
  obtain ⟨h0, h | ⟨g, cap, cur, rfl, hB, hg, hr⟩⟩ := h
  · exact ⟨h0, .inl h⟩
  · exact ⟨h0, .inr ⟨g, cap, cur, rfl, hB, (k g rfl).trans hg, hr⟩⟩
theorem lat_typ {W : World} {v : Value} {l : List F3.Ent} (h : F3.LAt W v l) {j : Nat} (hj : v.ownBlock = some j) : ∃ cur, W.heap[j]? = some (.cells cur 178 (0, 0)) := by
  obtain ⟨h0, h | ⟨g, cap, cur, rfl, hB, hg, hr⟩⟩ := h
  · rw [h.1] at hj; cases hj
  · obtain rfl : g = j := by simpa [Value.ownBlock] using hj
    exact ⟨cur, hg⟩
theorem WQ.lt {n : Int} (h : WQ V z n L G) : z < V.heap.size := by obtain ⟨q, r, _⟩ := h; exact r.lt
/-- Some blocks of the machine turn. -/
theorem WQ.turns {n : Int} {G' : Nat → Prop} (h : WQ V z n L G) (k : Turns G V V') (hz : ¬ G z) (lo : ∀ i, G' i → G i ∨ V.heap.size ≤ i) : WQ V' z n L G' := by
  obtain ⟨q, r, ok, e1, e2, ⟨l, hl, hn⟩, far⟩ := h
  have lt : ∀ j, q.fs.ownBlock = some j → j < V.heap.size := fun j hj => by obtain ⟨cur, hc⟩ := lat_typ hl hj; exact M5.heap_lt hc
  exact ⟨q, k.heap hz r, ok, e1, e2, ⟨l, lat_same hl fun j hj => k.block j (lt j hj) (far j hj), hn⟩, fun j hj e => (lo j e).elim (far j hj) fun h => absurd (lt j hj) (Nat.not_lt.2 h)⟩
theorem MQ.step {b' fb' mb' g' x' : Nat} {cs' os' : Value} {G' : Nat → Prop} {m' : MS} (h : MQ w V z s vw vr vc b fb mb g x cs os G m L) (P' : MachP V' b' fb' mb' g' x' cs' os' G' m') (k : Turns G V V') (lo : ∀ i, G' i → G i ∨ V.heap.size ≤ i) : MQ w V' z s vw vr vc b' fb' mb' g' x' cs' os' G' m' L := by
  have no : ∀ i, i < V.heap.size → ¬ G i → ¬ G' i := fun i hl hn e => (lo i e).elim hn fun h => absurd hl (Nat.not_lt.2 h)
  exact ⟨P', h.q.turns k h.gz lo, k.heap h.gx h.X, k.heap h.g2 h.z2, no z h.q.lt h.gz, no _ (M5.heap_lt h.X) h.gx, no _ h.z2.lt h.g2, h.zx, fun i hi => (lo i hi).elim (h.low i) fun e => Nat.le_trans h.g.size e, Turns.bel h.g k h.low, h.t⟩
theorem MQ.bel (h : MQ w V z s vw vr vc b fb mb g x cs os G m L) (k : Below V.heap.size V V') : MQ w V' z s vw vr vc b fb mb g x cs os G m L := h.step (h.P.bel k) (Turns.of_bel k) fun _ e => .inl e
theorem MQ.only {y : Nat} {m' : MS} (h : MQ w V z s vw vr vc b fb mb g x cs os G m L) (P' : MachP V' b fb mb g x cs os G m') (k : V.grownBy V' (some y)) (hy : G y) : MQ w V' z s vw vr vc b fb mb g x cs os G m' L := h.step P' (Turns.of_only k hy) fun _ e => .inl e
/-- A field of the document's machine is written. -/
theorem MQ.put {q' : RV} {L' : Nat} (h : MQ w V z s vw vr vc b fb mb g x cs os G m L) (r : RowQ V' z q') (k : V.grownBy V' (some z)) (ok : q'.Ok) (e1 : q'.nw = s.n) (e2 : q'.fn = s.n) (hl : ∃ l : List F3.Ent, F3.LAt V q'.fs l ∧ l.length ≤ L') (far : ∀ j, q'.fs.ownBlock = some j → ¬ G j) : MQ w V' z s vw vr vc b fb mb g x cs os G m L' := by
  have T : Turns (fun i => i = z) V V' := Turns.of_only k rfl
  have nt : ∀ i, i = z → ¬ isTab i := fun i e ht => by have h1 := h.t.lt ht; have h2 := h.zx; omega
  have hq := h.q
  obtain ⟨q0, r0, _⟩ := hq
  obtain ⟨l, hl, hn⟩ := hl
  have hl' : F3.LAt V' q'.fs l := lat_same hl fun j hj => k.block j (by obtain ⟨cur, hc⟩ := lat_typ hl hj; exact M5.heap_lt hc) fun e => by
    injection e with e
    obtain ⟨cur, hc⟩ := lat_typ hl hj
    unfold RowQ at r0
    rw [e, r0] at hc
    simp at hc
  exact ⟨h.P.turns T (fun i hi e => h.gz (e ▸ hi)) nt, ⟨q', r, ok, e1, e2, ⟨l, hl', hn⟩, far⟩, only_heap k (by have := h.zx; omega) h.X, only_heap k (by have := h.zx; omega) h.z2, h.gz, h.gx, h.g2, h.zx, h.low, Turns.bel h.g T (fun i e => by have := h.zx; omega), h.t⟩
theorem MQ.cells (h : MQ w V z s vw vr vc b fb mb g x cs os G m L) : V.cell? ⟨w.heap.size, 0, none⟩ = some (.int .i64 s.n) ∧ V.cell? ⟨w.heap.size, 1, none⟩ = some (.int .i64 s.sz) ∧ V.cell? ⟨w.heap.size, 2, none⟩ = some (.int .u32 s.pc) ∧ V.cell? ⟨w.heap.size, 3, none⟩ = some (.int .u8 s.c) ∧ V.cell? ⟨w.heap.size, 4, none⟩ = some (.int .u8 s.p) ∧ V.cell? ⟨w.heap.size, 5, none⟩ = some (.int .u8 s.k) ∧ V.cell? ⟨w.heap.size, 6, none⟩ = some (.int .u8 s.f) ∧ V.cell? ⟨w.heap.size, 7, none⟩ = some (.int .u32 s.wim) ∧ V.cell? ⟨w.heap.size, 8, none⟩ = some vw ∧ V.cell? ⟨w.heap.size, 9, none⟩ = some vr ∧ V.cell? ⟨w.heap.size, 10, none⟩ = some vc :=
  ⟨row_cell h.X rfl, row_cell h.X rfl, row_cell h.X rfl, row_cell h.X rfl, row_cell h.X rfl, row_cell h.X rfl, row_cell h.X rfl, row_cell h.X rfl, row_cell h.X rfl, row_cell h.X rfl, row_cell h.X rfl⟩
theorem Load_any {t : Value} {l : Nat} {f : Nat → Int} (h : MachP V b fb mb g x cs os G m) (hs : Sl .u32 V t l f) (hf : ∀ i, W32 (f i)) :
    Calls Tryz.prog 46 #[.pointer (some ⟨b, 0, none⟩), t] V fun e w' => (∃ er : Int, e = .returned (.int .i64 er)) ∧ MachP w' b fb mb g x cs os G (mPut m l f) ∧ Turns G V w' := by
  by_cases he : spE m.sz 0 l = 0
  · refine (Load_at h hs hf he).mono ?_
    rintro e w' ⟨rfl, P, k⟩
    unfold mPut
    rw [if_pos he]
    exact ⟨⟨_, rfl⟩, P, Turns.of_only k h.gg⟩
  · refine (Load_no h hs he).mono ?_
    rintro e w' ⟨rfl, k⟩
    unfold mPut
    rw [if_neg he]
    exact ⟨⟨_, rfl⟩, h.bel k, Turns.of_bel k⟩
theorem SetPsr_any (h : MachP V b fb mb g x cs os G m) (c p k f : Int) (hc : P4.Byte c) (hp : P4.Byte p) (hk : P4.Byte k) (hf : P4.Byte f) :
    Calls Tryz.prog 48 #[.pointer (some ⟨b, 0, none⟩), .agg #[.int .u8 c, .int .u8 p, .int .u8 k, .int .u8 f]] V fun e w' => (∃ er : Int, e = .returned (.int .i64 er)) ∧ MachP w' b fb mb g x cs os G (mPsr m c p k f) ∧ Turns G V w' := by
  by_cases he : P4.State c p k f m.nw
  · refine (SetPsr_yes h c p k f hc hp hk hf he).mono ?_
    rintro e w' ⟨rfl, P, k⟩
    unfold mPsr
    rw [if_pos he]
    exact ⟨⟨_, rfl⟩, P, Turns.of_only k h.gb⟩
  · refine (SetPsr_no h c p k f hc hp hk hf he).mono ?_
    rintro e w' ⟨rfl, k⟩
    unfold mPsr
    rw [if_neg he]
    exact ⟨⟨_, rfl⟩, h.bel k, Turns.of_bel k⟩
theorem SetWim_any (h : MachP V b fb mb g x cs os G m) (u : Int) (hu : W32 u) :
    Calls Tryz.prog 49 #[.pointer (some ⟨b, 0, none⟩), .int .u32 u] V fun e w' => (∃ er : Int, e = .returned (.int .i64 er)) ∧ MachP w' b fb mb g x cs os G (mWim m u) ∧ Turns G V w' := by
  unfold mWim
  cases he : wx u m.nw with
  | some t =>
    refine (SetWim_yes u h (by rw [he]; rfl)).mono ?_
    rintro e w' ⟨rfl, P, k⟩
    exact ⟨⟨_, rfl⟩, P, Turns.of_only k h.gb⟩
  | none =>
    refine (SetWim_no u h hu he).mono ?_
    rintro e w' ⟨rfl, k⟩
    exact ⟨⟨_, rfl⟩, h.bel k, Turns.of_bel k⟩
theorem set_any (h : MachP V b fb mb g x cs os G m) (a : RG) (hv : W32 a.v) :
    Calls Tryz.prog 42 #[.pointer (some ⟨fb, 0, none⟩), .int .i64 a.x, .int .i64 a.k, .int .i64 a.r, .int .u32 a.v] V fun e w' => (∃ er : Int, e = .returned (.int .i64 er)) ∧ MachP w' b fb mb g x cs os G (mReg m a) ∧ Turns G V w' := by
  by_cases he : F3.Named m.nw a.x a.k a.r
  · refine (set_yes h a.x a.k a.r a.v hv he).mono ?_
    rintro e w' ⟨rfl, P, k⟩
    unfold mReg
    rw [if_pos he]
    exact ⟨⟨_, rfl⟩, P, Turns.of_only k h.gf⟩
  · refine (set_no h a.x a.k a.r a.v he).mono ?_
    rintro e w' ⟨rfl, rfl⟩
    unfold mReg
    rw [if_neg he]
    exact ⟨⟨_, rfl⟩, h, Turns.refl _ _⟩
theorem mPut_nw (m : MS) (l : Nat) (f : Nat → Int) : (mPut m l f).nw = m.nw ∧ (mPut m l f).sz = m.sz := by unfold mPut; split <;> exact ⟨rfl, rfl⟩
theorem mPsr_nw (m : MS) (c p k f : Int) : (mPsr m c p k f).nw = m.nw := by unfold mPsr; split <;> rfl
theorem mWim_nw (m : MS) (u : Int) : (mWim m u).nw = m.nw := by unfold mWim; split <;> rfl
theorem mReg_nw (m : MS) (a : RG) : (mReg m a).nw = m.nw := by unfold mReg; split <;> rfl
theorem mRegs_nw (m : MS) (A : Nat → RG) : ∀ n, (mRegs m A n).nw = m.nw
  | 0 => rfl
  | n + 1 => by show (mReg (mRegs m A n) (A n)).nw = m.nw; rw [mReg_nw, mRegs_nw m A n]
/-- The document's Set. -/
theorem refSet_any (n : Int) (a : RG) (v : Value) (l : List F3.Ent) (W : World) (hn : 2 ≤ n) (hn' : n ≤ 32) (hl : l.length ≤ 900) (hL : F3.LAt W v l) :
    Calls Tryz.prog 50 #[.agg #[.int .i64 n, v], .int .i64 a.x, .int .i64 a.k, .int .i64 a.r, .int .u32 a.v] W fun e w' => ∃ (er : Int) (p' : Option Addr) (m' c' : Nat), e = .returned (.tuple #[.agg #[.int .i64 n, .slice p' m' c'], .int .i64 er]) ∧ (∃ l' : List F3.Ent, F3.LAt w' (.slice p' m' c') l' ∧ l'.length ≤ l.length + 1) ∧ (∀ j, (Value.slice p' m' c').ownBlock = some j → v.ownBlock = some j ∨ W.heap.size ≤ j) ∧ Below W.heap.size W w' := by
  obtain ⟨p, c, rfl, _⟩ := hL.form
  by_cases h : F3.Named n a.x a.k a.r
  · refine (F3.refSet_at n a.x a.k a.r a.v p l.length c l W hn hn' hl hL h).mono ?_
    rintro e w' ⟨s', rfl, hL', g'⟩
    obtain ⟨p', c', e, _⟩ := hL'.at.form
    subst e
    exact ⟨_, p', _, c', rfl, ⟨_, hL'.at, by simp⟩, fun j hj => .inr (World.ownsRow.lt hL' j hj).1, g'⟩
  · refine (F3.refSet_bad n a.x a.k a.r a.v p l.length c W h).mono ?_
    rintro e w' ⟨rfl, g'⟩
    exact ⟨_, p, l.length, c, rfl, ⟨l, hL.bel g', Nat.le_succ _⟩, fun j hj => .inl hj, g'⟩
end
end Go.Proofs.YtoecanjhkbeemaaGreatDoor.K6
namespace Go.Proofs.YtoecanjhkbeemaaGreatDoor.K6
open Go.RowKit
set_option linter.unusedVariables false
/-- The document's machine is stored. -/
theorem MQ.start {w V V5 : World} {s : ST} {vw vr vc : Value} {b fb mb g x : Nat} {cs os : Value} {G : Nat → Prop} {m : MS} {q : RV} {sz : Nat} (P : MachP V b fb mb g x cs os G m) (RA : RefAt V q (mnew s.n sz) 0) (hfs : q.fs = .slice none 0 0) (r : RowQ V5 V.heap.size q) (k : Below V.heap.size V V5) (X : V.heap[w.heap.size]? = some (.cells (srow s vw vr vc) 28 (0, 0))) (z2 : RowQ V (w.heap.size + 1) rzero)
    (gw : Below w.heap.size w V) (low : ∀ i, G i → w.heap.size + 2 ≤ i) (t : Tabs w) : MQ w V5 V.heap.size s vw vr vc b fb mb g x cs os G m 0 := by
  obtain ⟨l, hl, _, hlen⟩ := RA.file
  exact ⟨P.bel k, ⟨q, r, RA.ok, RA.nw, RA.fn, ⟨l, hl.bel k, hlen⟩, fun j hj => by rw [hfs] at hj; cases hj⟩, bel_heap k X, z2.bel k, fun e => absurd (P.lt _ e) (Nat.lt_irrefl _), fun e => by have := low _ e; omega, fun e => by have := low _ e; omega, z2.lt, fun i hi => by have := low i hi; omega, bel_trans gw k, t⟩
set_option maxRecDepth 100000 in
theorem step_load {ops : Array Oper} {o : Oper} {a : Act} {w : World} {K : Act → World → Prop} {Q : Exit → Act → World → Prop} {E : Prop} (hg : o.guard = none) (x : Operand) (ho : o.op = .load 39 x) (z : Nat) (q : RV) (hx : a.eval x = .pointer (some ⟨z, 0, none⟩)) (hz : RowQ w z q)
    (hK : K (a.put o.dst (.agg (rrow q))) w) : if Region.wanted o (yielded ops a.tmps) = true then Oper.wp Tryz.prog o a w K Q else E := by
  have hw : Region.wanted o (yielded ops a.tmps) = true := by simp [Region.wanted, hg]
  rw [if_pos hw]
  exact wp_load_row _ x ho z hx 39 (rrow q) (0, 0) _ hz rrow_under rfl (rrow_info _) hK
set_option maxRecDepth 100000 in
theorem q_results3 {fn : Func} {tmps : Array Value} {w : World} {z : Nat} {p u : Tmp} {q : RV} (h : fn.results = #[.tmp u, .cell p 39]) (hp : tmps.getD p undef = .pointer (some ⟨z, 0, none⟩)) (hz : RowQ w z q) : (results fn tmps).run Tryz.prog w = .ok (.tuple #[tmps.getD u undef, .agg (rrow q)]) w := by
  have hp' : tmps[p]?.getD undef = .pointer (some ⟨z, 0, none⟩) := by simpa using hp
  simp [results, h, hp', asAddr, run_loadVar_row w z 39 39 (rrow q) (0, 0) _ hz rrow_under rfl (rrow_info _)]
theorem q_ret3 {fn : Func} {R : Ending → World → Prop} {a : Act} {w : World} {z : Nat} {p u : Tmp} {q : RV} (h : fn.results = #[.tmp u, .cell p 39]) (hp : a.tmps.getD p undef = .pointer (some ⟨z, 0, none⟩)) (hz : RowQ w z q) (hd : a.defers = []) (hR : R (.returned (.tuple #[a.tmps.getD u undef, .agg (rrow q)])) w) : bodyPost Tryz.prog fn R .ret a w :=
  bodyPost_ret (q_results3 h hp hz) hd hR
theorem ap_any {ops : Array Oper} {rest : List Oper} {o : Oper} {a : Act} {w : World} {Q : Exit → Act → World → Prop} (hg : o.guard = none) (sl x : Operand)
    (hop : o.op = Op.call { callee := Callee.builtin Builtin.append, args := #[sl, x], argTypes := #[25, 25] }) (B : Nat) (hs : a.eval sl = .slice (some ⟨B, 0, none⟩) 0 0) (own : w.ownsRow B 22 1 (.slice (some ⟨B, 0, none⟩) 0 0) 0 []) (hB : B ≤ w.heap.size)
    (vc : Value) (n : Nat) (f : Nat → Int) (hx : a.eval x = vc) (hv : SlP w vc n f) (hn : n ≤ 1000000) (h : ∀ p' m' c' w', w.grownBy w' (some B) → wpList Tryz.prog ops Q rest (a.put o.dst (.slice p' m' c')) w') : wpList Tryz.prog ops Q (o :: rest) a w := by
  obtain ⟨i0, hi, hz0, hz1, hz2⟩ := info_parts words_parts
  rcases hv with ⟨rfl, rfl⟩ | ⟨ad, c, rfl, hc⟩
  · refine wpList_append_own_none hg sl x 25 hop B 22 i0 1 words_under hi (.slice (some ⟨B, 0, none⟩) 0 0) 0 [] hs own hx ?_
    exact h _ _ _ _ ⟨rfl, rfl, rfl, Nat.le_refl _, fun _ _ _ => rfl⟩
  · refine wpList_append_own w hg sl x 25 hop B 22 i0 (.int .u32 0) 1 4 words_under hi hz0 hz1 hz2 rfl (by decide) (.slice (some ⟨B, 0, none⟩) 0 0) 0 [] hs own ad n c (bsL .u32 f n) hx ?_ ?_ ?_ ?_ ?_ ?_ ?_
    · rw [bsL_len]; omega
    · intro j u hu
      have hj : j < n := by
        rcases Nat.lt_or_ge j n with h | h
        · exact h
        · rw [List.getElem?_eq_none (by rw [bsL_len]; exact h)] at hu; cases hu
      obtain ⟨zb, o, rfl, hcc⟩ := hc (by omega)
      rw [add_off, ← hu, bsL_get .u32 f hj]
      exact hcc j hj
    · exact bsL_ones _ _
    · unfold maxLen; omega
    · omega
    · exact hB
    · intro v' w' ho hgrow _
      obtain ⟨p', c', rfl⟩ := lenOf_own ho
      exact h _ _ _ _ hgrow
theorem rPut_any {W : World} {b3 n l d : Nat} {q : Option Addr} {f : Nat → Int} (hn : n ≤ 4194304) (hc : ∀ i, i < n → W.cell? ⟨b3, i, none⟩ = some (.int .u8 0)) (hs : Sl .u32 W (.slice q l d) l f) (hf : ∀ i, W32 (f i)) (hl : l ≤ 1000000) :
    Calls Tryz.prog 47 #[.slice (some ⟨b3, 0, none⟩) n n, .int .u32 0, .slice q l d] W fun e w' => (∃ (er : Int) (p' : Option Addr) (m' c' : Nat), e = .returned (.tuple #[.slice p' m' c', .int .i64 er])) ∧ Below W.heap.size W w' := by
  by_cases he : spE n 0 l = 0
  · refine (M5.rput_yes (.slice (some ⟨b3, 0, none⟩) n n) (.slice q l d) n l (fun _ => 0) f 0 W hn ⟨_, _, rfl, fun _ => ⟨b3, 0, rfl, fun i hi => by rw [Nat.zero_add]; exact hc i hi⟩⟩ hs hf he).mono ?_
    rintro e w' ⟨s', rfl, ⟨p', c', rfl, _⟩, g'⟩
    exact ⟨⟨_, p', _, c', rfl⟩, g'⟩
  · refine (M5.rput_no (some ⟨b3, 0, none⟩) n n 0 q l d W hn ⟨by decide, by decide⟩ (by omega) he).mono ?_
    rintro e w' ⟨rfl, rfl⟩
    exact ⟨⟨_, _, _, _, rfl⟩, Below.refl _ _⟩
theorem s_one (p : Option Addr) (n c : Nat) : ∀ v ∈ [Value.slice p n c], v.oneCell' = true := by
  intro v hv
  simp at hv
  subst hv
  rfl
set_option maxRecDepth 100000 in
set_option maxHeartbeats 8000000 in
theorem made_yes {w : World} (s : ST) {vw vr vc : Value} (hb : STB s) (hs : StAt w s vw vr vc) (hm : s.may) (hT : Tabs w) (hlr : s.lr ≤ 60) (hlc : s.lc ≤ 1000000) (hlw : s.lw ≤ 1000000) :
    Calls Tryz.prog 11 #[.agg (srow s vw vr vc)] w fun e w' => ∃ b fb mb g x cs os G q, e = .returned (.tuple #[.pointer (some ⟨b, 0, none⟩), .agg (rrow q)]) ∧ q.Ok ∧ q.nw = s.n ∧ MachP w' b fb mb g x cs os G (mMade s) ∧ Below w.heap.size w w' ∧ ∀ i, G i → w.heap.size ≤ i := by
  obtain ⟨sn, hsn⟩ : ∃ sn : Nat, s.sz = sn := ⟨s.sz.toNat, by have := hm.2.2.1; omega⟩
  have HM : Hid (M5.MaySize (sn : Int)) := by have := hm.2.2; rw [hsn] at this; exact this
  have h2 := hm.1
  have h32 := hm.2.1
  obtain ⟨pw, cw, rfl, _⟩ := id hs.sw
  obtain ⟨pr, cr, rfl, hrg⟩ := id hs.sr
  obtain ⟨pc, cc, rfl⟩ : ∃ p c, vc = .slice p s.lc c := by
    rcases hs.sc with ⟨rfl, h0⟩ | ⟨a, c, rfl, _⟩
    · exact ⟨none, 0, by rw [h0]⟩
    · exact ⟨_, _, rfl⟩
  have HRG := Lib.hid hrg
  have HB := Lib.hid hb
  have HS := Lib.hid hs
  have HT := Lib.hid hT
  have hX : Hid ((w.alloc (.cells (srow s (.slice pw s.lw cw) (.slice pr s.lr cr) (.slice pc s.lc cc)) 28)).heap[w.heap.size]? = some (.cells (srow s (.slice pw s.lw cw) (.slice pr s.lr cr) (.slice pc s.lc cc)) 28 (0, 0))) := heap_alloc_last _ _
  have gX : Hid (Below w.heap.size w (w.alloc (.cells (srow s (.slice pw s.lw cw) (.slice pr s.lr cr) (.slice pc s.lc cc)) 28))) := bel_alK (Below.refl _ _)
  have sX : (w.alloc (.cells (srow s (.slice pw s.lw cw) (.slice pr s.lr cr) (.slice pc s.lc cc)) 28)).heap.size = w.heap.size + 1 := by simp
  clear hb hs hm hT hrg
  go_enter Tryz.func11, Tryz.ntmps11
  go_upto_region 1 with (refine q_alloc rfl (some 3) rfl (by kernel_rfl) ?_; intro V r1 b1 s1)
  have R1 : Hid (RowQ V (w.heap.size + 1) rzero) := by rw [← sX]; exact r1.out
  have X1 : Hid (V.heap[w.heap.size]? = some (.cells (srow s (.slice pw s.lw cw) (.slice pr s.lr cr) (.slice pc s.lc cc)) 28 (0, 0))) := bel_heap b1 hX.out
  have G1 : Hid (Below w.heap.size w V) := bel_trans gX.out b1
  have x0 : V.cell? ⟨w.heap.size, 0, none⟩ = some (.int .i64 s.n) := row_cell X1.out rfl
  have x1 : V.cell? ⟨w.heap.size, 1, none⟩ = some (.int .i64 sn) := by
    have := row_cell X1.out (j := 1) (v := .int .i64 s.sz) rfl
    rw [hsn] at this
    exact this
  clear r1 b1 s1 hX gX
  go_wp2_with fail
  refine (New_at s.n sn V h2 h32 HM.out (HT.out.bel G1.out)).mono ?_; rintro e w2 ⟨b, G, rfl, ⟨fb, mb, g, x, cs, os, M2⟩, g2, low2⟩
  replace x0 := bel_cell g2 x0
  replace x1 := bel_cell g2 x1
  have M2 := Lib.hid M2
  have G2 := Lib.hid g2
  have L2 := Lib.hid low2
  clear g2 low2
  go_wp2_with fail
  refine (refNew6_yes s.n sn w2 h2 h32 HM.out).mono ?_; rintro e w3 ⟨q, rfl, RA, hfs, ⟨b3, lb3, hms, hc3⟩, g3⟩
  have RA := Lib.hid RA
  have HF := Lib.hid hfs
  have G3 := Lib.hid g3
  have HMS := Lib.hid hms
  have HC3 := Lib.hid hc3
  have NG : Hid (¬ G b3) := fun e => by have := M2.out.lt _ e; omega
  clear g3 hfs x0 x1 hms hc3
  go_upto_region 3 with (first
    | (refine q_alloc rfl (some 6) rfl (by kernel_rfl) ?_; intro V4 r4 b4 s4)
    | (refine q_whole rfl (.tmp 6) (.tmp 24) rfl w3.heap.size rzero q rfl rfl r4.out RA.out.ok ?_; intro V5 z5 g5))
  have k5 := only_bel b4 g5.out (Nat.le_refl _)
  have Q0 := Lib.hid (MQ.start (w := w) (s := s) (sz := sn) (M2.out.bel G3.out) RA.out HF.out z5.out k5 (bel_heap G3.out (bel_heap G2.out X1.out)) ((R1.out.bel G2.out).bel G3.out) (bel_trans (bel_trans G1.out G2.out) G3.out) (fun i hi => by have h1 := L2.out i hi; have h3 := R1.out.lt; omega) HT.out)
  have C5 : Hid (∀ i, i < sn → V5.cell? ⟨b3, i, none⟩ = some (.int .u8 0)) := fun i hi => bel_cell k5 (HC3.out i hi)
  have z5' := Lib.hid (And.intro RA.out.ok (And.intro RA.out.nw RA.out.fn))
  have sn4 : sn ≤ 4194304 := by have := HM.out.2.1; omega
  clear r4 b4 s4 g5 M2 RA G2 G3 L2 R1 X1 k5 HC3
  generalize w3.heap.size = z at Q0 z5 ⊢
  obtain ⟨_, _, _, _, _, _, _, _, x8, _, _⟩ := Q0.out.cells
  go_wp2_with fail
  refine (Load_any Q0.out.P (HS.out.sw.bel Q0.out.g) HB.out.fw).mono ?_; rintro e w6 ⟨⟨er, rfl⟩, P6, T6⟩
  have Q6 := Lib.hid (Q0.out.step P6 T6 fun _ e => .inl e)
  have Z6 : Hid (RowQ w6 z q) := T6.heap Q0.out.gz z5.out
  have C6 : Hid (∀ i, i < sn → w6.cell? ⟨b3, i, none⟩ = some (.int .u8 0)) := fun i hi => T6.cell NG.out (C5.out i hi)
  clear P6 T6 Q0 x8 C5 z5
  obtain ⟨_, _, _, _, _, _, _, _, x8, _, _⟩ := Q6.out.cells
  have y3 : w6.cell? ⟨z, 3, none⟩ = some (.slice (some ⟨b3, 0, none⟩) sn sn) := by rw [← HMS.out]; exact row_cell Z6.out rfl
  go_wp2_with fail
  refine (rPut_any sn4 C6.out (HS.out.sw.bel Q6.out.g) HB.out.fw hlw).mono ?_; rintro e w7 ⟨⟨er7, p7, m7, c7, rfl⟩, g7⟩
  have Q7 := Lib.hid (Q6.out.bel g7)
  have Z7 := Lib.hid (Z6.out.bel g7)
  clear g7 Q6 Z6 C6 x8 y3
  go_upto_region 7 with (refine q_store rfl 29 (.tmp 50) (.tmp 48) rfl q { q with ms := .slice p7 m7 c7 } z 3 rfl [.slice p7 m7 c7] rfl Z7.out (by kernel_rfl) (s_one _ _ _) (Nat.le_of_ble_eq_true rfl) rfl ?_; intro V8 r8 g8)
  have Q8 := Lib.hid (Q7.out.put r8.out g8 ⟨z5'.out.1.fs, rfl, z5'.out.1.tp, z5'.out.1.ts, z5'.out.1.ch, z5'.out.1.ot⟩ z5'.out.2.1 z5'.out.2.2 (L' := 0) ⟨[], by show F3.LAt w7 q.fs []; rw [HF.out]; exact F3.LAt.nil _, Nat.le_refl _⟩ (fun j hj => by have hj : q.fs.ownBlock = some j := hj; rw [HF.out] at hj; cases hj))
  clear r8 g8 Q7 Z7 HF HMS z5' NG
  have hsz : mnew s.n sn = mnew s.n s.sz.toNat := by rw [hsn]; rfl
  rw [hsz] at Q8
  have Q8 := Lib.hid Q8.out
  clear hsz
  obtain ⟨_, _, x2, _⟩ := Q8.out.cells
  go_wp2_with fail
  refine (PC_set s.pc Q8.out.P HB.out.pc).mono ?_; rintro e w9 ⟨rfl, P9, k9⟩
  have Q9 := Lib.hid (Q8.out.only P9 k9 Q8.out.P.gb)
  clear P9 k9 Q8 x2
  obtain ⟨q9, r9, ok9, e19, e29, hl9, far9⟩ := id Q9.out.q
  have HQ9 := Lib.hid (And.intro ok9 (And.intro e19 (And.intro e29 (And.intro hl9 far9))))
  have r9 := Lib.hid r9
  obtain ⟨_, _, x2, _⟩ := Q9.out.cells
  clear ok9 e19 e29 hl9 far9
  go_upto_region 9 with (refine q_store rfl _ (.tmp 57) (.tmp 56) rfl q9 { q9 with pc := s.pc } _ _ rfl [.int .u32 s.pc] rfl r9.out (by kernel_rfl) (rv_one _ _) (Nat.le_of_ble_eq_true rfl) rfl ?_; intro V10 r10 g10)
  obtain ⟨ok9, e19, e29, hl9, far9⟩ := HQ9.out
  have Q10 := Lib.hid (Q9.out.put r10.out g10 ⟨ok9.fs, ok9.ms, ok9.tp, ok9.ts, ok9.ch, ok9.ot⟩ e19 e29 (L' := 0) hl9 far9)
  clear ok9 e19 e29 hl9 far9 HQ9 r10 g10 r9 Q9 x2
  obtain ⟨_, _, _, x3, x4, x5, x6, _⟩ := Q10.out.cells
  go_wp2_with fail
  refine (SetPsr_any Q10.out.P s.c s.p s.k s.f HB.out.c HB.out.p HB.out.k HB.out.f).mono ?_; rintro e w11 ⟨⟨er11, rfl⟩, P11, T11⟩
  have Q11 := Lib.hid (Q10.out.step P11 T11 fun _ e => .inl e)
  clear P11 T11 Q10 x3 x4 x5 x6
  obtain ⟨q11, r11, ok11, e111, e211, hl11, far11⟩ := id Q11.out.q
  have HQ11 := Lib.hid (And.intro ok11 (And.intro e111 (And.intro e211 (And.intro hl11 far11))))
  have r11 := Lib.hid r11
  obtain ⟨_, _, _, x3, x4, x5, x6, _⟩ := Q11.out.cells
  clear ok11 e111 e211 hl11 far11
  go_upto_if 62 with (fail)
  go_cut [4] (fun s4 wx => s4 = .pointer (some ⟨b, 0, none⟩) ∧ MQ w wx z s (.slice pw s.lw cw) (.slice pr s.lr cr) (.slice pc s.lc cc) b fb mb g x cs os G (mPsr ((mPut (mnew s.n s.sz.toNat) s.lw s.fw).jmp s.pc) s.c s.p s.k s.f) 0)
  case first =>
    go_wp2_with (refine q_store rfl _ (.tmp 65) (.tmp 64) rfl q11 { q11 with cwp := s.c, pil := s.p, bank := s.k, fl := s.f } _ _ rfl [.int .u8 s.c, .int .u8 s.p, .int .u8 s.k, .int .u8 s.f] rfl r11.out (by kernel_rfl) (by intro v hv; simp at hv; rcases hv with rfl | rfl | rfl | rfl <;> rfl) (Nat.le_of_ble_eq_true rfl) rfl ?_; intro V12 r12 g12)
    all_goals
      obtain ⟨ok11, e111, e211, hl11, far11⟩ := HQ11.out
      go_meet
      first
        | exact ⟨rfl, Q11.out.put r12.out g12 ⟨ok11.fs, ok11.ms, ok11.tp, ok11.ts, ok11.ch, ok11.ot⟩ e111 e211 (L' := 0) hl11 far11⟩
        | exact ⟨rfl, Q11.out⟩
  case rest =>
    obtain ⟨rfl, QB⟩ := hcut
    have QB := Lib.hid QB
    clear Q11 r11 HQ11
    obtain ⟨_, _, _, _, _, _, _, x7, _⟩ := QB.out.cells
    go_wp2_with fail
    refine (SetWim_any QB.out.P s.wim HB.out.wim).mono ?_; rintro e w13 ⟨⟨er13, rfl⟩, P13, T13⟩
    have Q13 := Lib.hid (QB.out.step P13 T13 fun _ e => .inl e)
    clear P13 T13 QB x7
    obtain ⟨q13, r13, ok13, e113, e213, hl13, far13⟩ := id Q13.out.q
    have HQ13 := Lib.hid (And.intro ok13 (And.intro e113 (And.intro e213 (And.intro hl13 far13))))
    have r13 := Lib.hid r13
    obtain ⟨_, _, _, _, _, _, _, x7, _⟩ := Q13.out.cells
    clear ok13 e113 e213 hl13 far13
    go_upto_if 70 with (fail)
    go_cut [4] (fun s4 wx => s4 = .pointer (some ⟨b, 0, none⟩) ∧ MQ w wx z s (.slice pw s.lw cw) (.slice pr s.lr cr) (.slice pc s.lc cc) b fb mb g x cs os G (mWim (mPsr ((mPut (mnew s.n s.sz.toNat) s.lw s.fw).jmp s.pc) s.c s.p s.k s.f) s.wim) 0)
    case first =>
      go_wp2_with (refine q_store rfl _ (.tmp 73) (.tmp 72) rfl q13 { q13 with wim := s.wim } _ _ rfl [.int .u32 s.wim] rfl r13.out (by kernel_rfl) (rv_one _ _) (Nat.le_of_ble_eq_true rfl) rfl ?_; intro V14 r14 g14)
      all_goals
        obtain ⟨ok13, e113, e213, hl13, far13⟩ := HQ13.out
        go_meet
        first
          | exact ⟨rfl, Q13.out.put r14.out g14 ⟨ok13.fs, ok13.ms, ok13.tp, ok13.ts, ok13.ch, ok13.ot⟩ e113 e213 (L' := 0) hl13 far13⟩
          | exact ⟨rfl, Q13.out⟩
    case rest =>
      obtain ⟨rfl, QC⟩ := hcut
      have QC := Lib.hid QC
      have hnw : Hid (2 ≤ s.n ∧ s.n ≤ 32) := ⟨h2, h32⟩
      clear Q13 r13 HQ13
      go_wp2_with fail
      go_loopw [8] (fun i wr => ∃ j : Nat, j ≤ s.lr ∧ i = .int .i64 j ∧ MQ w wr z s (.slice pw s.lw cw) (.slice pr s.lr cr) (.slice pc s.lc cc) b fb mb g x cs os G (mRegs (mWim (mPsr ((mPut (mnew s.n s.sz.toNat) s.lw s.fw).jmp s.pc) s.c s.p s.k s.f) s.wim) s.A j) j) (fun i _ => s.lr - (intOf i).toNat)
      case atStart => exact ⟨0, Nat.zero_le _, rfl, QC.out⟩
      case round =>
        obtain ⟨j, hj, rfl, qr⟩ := hrel
        have QR := Lib.hid qr
        clear qr QC
        obtain ⟨_, _, _, _, _, _, _, _, _, x9, x10⟩ := QR.out.cells
        by_cases hlt : j < s.lr
        · obtain ⟨rb, ro, rfl, hcell⟩ := HRG.out (by omega)
          obtain ⟨a0, a1, a2, a3⟩ := hcell j hlt
          have gw := QR.out.g
          replace a0 := bel_cell gw a0
          replace a1 := bel_cell gw a1
          replace a2 := bel_cell gw a2
          replace a3 := bel_cell gw a3
          have HV := Lib.hid (HB.out.A j hlt)
          have HLT := Lib.hid hlt
          clear hcell gw
          obtain ⟨ra, hra⟩ : ∃ ra, ra = s.A j := ⟨_, rfl⟩
          rw [← hra] at a0 a1 a2 a3 HV
          have HRA := Lib.hid hra
          clear hra
          have XR : Hid ((wr.alloc (.cells #[.int .i64 ra.x, .int .i64 ra.k, .int .i64 ra.r, .int .u32 ra.v] 99)).heap[wr.heap.size]? = some (.cells #[.int .i64 ra.x, .int .i64 ra.k, .int .i64 ra.r, .int .u32 ra.v] 99 (0, 0))) := heap_alloc_last _ _
          have QX := Lib.hid (QR.out.bel (bel_alK (Below.refl _ _) (o := .cells #[.int .i64 ra.x, .int .i64 ra.k, .int .i64 ra.r, .int .u32 ra.v] 99)))
          have nrx : Hid (¬ G wr.heap.size) := fun e => absurd (QR.out.P.lt _ e) (Nat.lt_irrefl _)
          go_wp2_with fail
          clear a0 a1 a2 a3 x9 x10
          generalize wr.alloc (.cells #[.int .i64 ra.x, .int .i64 ra.k, .int .i64 ra.r, .int .u32 ra.v] 99) = W at XR QX ⊢
          generalize wr.heap.size = y at XR nrx ⊢
          have QD := Lib.hid (QX.out.bel (Below.drew (Below.refl _ _)))
          have DD : W.drew.cell? ⟨y, 0, none⟩ = some (.int .i64 ra.x) ∧ W.drew.cell? ⟨y, 1, none⟩ = some (.int .i64 ra.k) ∧ W.drew.cell? ⟨y, 2, none⟩ = some (.int .i64 ra.r) ∧ W.drew.cell? ⟨y, 3, none⟩ = some (.int .u32 ra.v) := ⟨row_cell XR.out rfl, row_cell XR.out rfl, row_cell XR.out rfl, row_cell XR.out rfl⟩
          go_region_held3 (fun w' => w'.cell? ⟨y, 0, none⟩ = some (.int .i64 ra.x) ∧ w'.cell? ⟨y, 1, none⟩ = some (.int .i64 ra.k) ∧ w'.cell? ⟨y, 2, none⟩ = some (.int .i64 ra.r) ∧ w'.cell? ⟨y, 3, none⟩ = some (.int .u32 ra.v))
            (first
              | exact DD
              | exact D2)
            (first
              | (go_at_call 26; refine (File_get QD.out.P).mono ?_; rintro e V1 ⟨rfl, hV1⟩; subst hV1)
              | (go_at_call 42; refine (set_any QD.out.P ra HV.out).mono ?_; rintro e V2 ⟨⟨er2, rfl⟩, P2, T2⟩; have Q2 := Lib.hid (QD.out.step P2 T2 fun _ e => .inl e); have XR2 := T2.heap nrx.out XR.out; have D2 : V2.cell? ⟨y, 0, none⟩ = some (.int .i64 ra.x) ∧ V2.cell? ⟨y, 1, none⟩ = some (.int .i64 ra.k) ∧ V2.cell? ⟨y, 2, none⟩ = some (.int .i64 ra.r) ∧ V2.cell? ⟨y, 3, none⟩ = some (.int .u32 ra.v) := ⟨row_cell XR2 rfl, row_cell XR2 rfl, row_cell XR2 rfl, row_cell XR2 rfl⟩))
          all_goals
            obtain ⟨d0, d1, d2, d3⟩ := D2
            obtain ⟨q2, r2, ok2, e12, e22, ⟨l2, hl2, hn2⟩, far2⟩ := id Q2.out.q
            have c1 : V2.cell? ⟨z, 1, none⟩ = some (.int .i64 s.n) := by rw [← e22]; exact row_cell r2 rfl
            have c2 : V2.cell? ⟨z, 2, none⟩ = some q2.fs := row_cell r2 rfl
            have HQ2 := Lib.hid (And.intro ok2 (And.intro e12 (And.intro far2 (And.intro r2 hn2))))
            have HL2 := Lib.hid hl2
            have hlj : l2.length ≤ 900 := by omega
            clear P2 T2 XR2 XR DD QD QX QR ok2 e12 e22 hl2 far2 r2 hn2 HV nrx
            go_wp2_with fail
            refine (refSet_any s.n ra q2.fs l2 V2 hnw.out.1 hnw.out.2 hlj HL2.out).mono ?_; rintro e V3 ⟨er3, p3, m3, c3, rfl, hl3, own3, g3⟩
            have Q3 := Lib.hid (Q2.out.bel g3)
            have Z3 := Lib.hid (HQ2.out.2.2.2.1.bel g3)
            have HL3 := Lib.hid hl3
            have OW3 := Lib.hid own3
            have LT : Hid (∀ i, G i → i < V2.heap.size) := Q2.out.P.lt
            clear hl3 own3 g3 d0 d1 d2 d3 c1 c2 Q2
            go_wp2_with (refine q_store rfl _ (.tmp 111) (.tmp 109) rfl q2 { q2 with fn := s.n, fs := .slice p3 m3 c3 } _ _ rfl [.int .i64 s.n, .slice p3 m3 c3] rfl Z3.out (by kernel_rfl) (by intro v hv; simp at hv; rcases hv with rfl | rfl <;> rfl) (Nat.le_of_ble_eq_true rfl) rfl ?_; intro V4 r4 g4)
            obtain ⟨ok2, e12, far2, _, hn2⟩ := HQ2.out
            obtain ⟨l3, hl3, hn3⟩ := HL3.out
            have Q4 := Q3.out.put r4.out g4 ⟨rfl, ok2.ms, ok2.tp, ok2.ts, ok2.ch, ok2.ot⟩ e12 rfl (L' := j + 1) ⟨l3, hl3, by omega⟩ (fun i hi hg => (OW3.out i hi).elim (fun e => far2 i e hg) fun e => by have := LT.out i hg; omega)
            have eM : mRegs (mWim (mPsr ((mPut (mnew s.n s.sz.toNat) s.lw s.fw).jmp s.pc) s.c s.p s.k s.f) s.wim) s.A (j + 1) = mReg (mRegs (mWim (mPsr ((mPut (mnew s.n s.sz.toNat) s.lw s.fw).jmp s.pc) s.c s.p s.k s.f) s.wim) s.A j) ra := by rw [HRA.out]; rfl
            rw [← eM] at Q4
            have Q4 := Lib.hid Q4
            clear r4 g4 ok2 e12 far2 hl3 eM Q3 Z3 HL3
            go_roundw
            case rel => exact ⟨j + 1, HLT.out, by go_num, Q4.out⟩
            case measure => have h9 := HLT.out; simp only [intOf]; omega
        · obtain rfl : j = s.lr := by omega
          go_wp2_with fail
          refine (Choose_at QR.out.P (HS.out.sc.bel QR.out.g) HB.out.fc hlc).mono ?_; rintro e w15 ⟨rfl, x', cs', G', P15, T15, lo15⟩
          have Q15 := Lib.hid (QR.out.step P15 T15 lo15)
          clear P15 T15 lo15 QR x9 x10
          obtain ⟨q15, r15, ok15, e115, e215, hl15, far15⟩ := id Q15.out.q
          have HQ15 := Lib.hid (And.intro ok15 (And.intro e115 (And.intro hl15 (And.intro far15 e215))))
          obtain ⟨_, _, _, _, _, _, _, _, _, _, x10⟩ := Q15.out.cells
          have gA : Below w15.heap.size w15 (w15.alloc (.cells #[] 22)) := bel_alK (Below.refl _ _)
          have sA : (w15.alloc (.cells #[] 22)).heap.size = w15.heap.size + 1 := by simp
          have lw15 : w.heap.size < w15.heap.size := M5.heap_lt Q15.out.X
          have r15 := Lib.hid r15
          have SC := Lib.hid ((HS.out.sc.bel Q15.out.g).bel gA)
          clear ok15 e115 e215 hl15 far15
          go_upto_region 21 with (first
            | (at_builtin; refine ap_any rfl _ _ rfl w15.heap.size rfl (World.ownsRow_made w15 #[] 0 (Nat.le_refl _) (Nat.zero_le _) (by simp)) (by rw [sA]; omega) (.slice pc s.lc cc) s.lc s.fc rfl SC.out hlc ?_; intro p16 m16 c16 w16 gB; have g16 := Lib.hid (gA.grown gB (by rw [sA]; omega) (fun k hk => by cases hk; exact Nat.le_refl _)); clear gB)
            | (refine q_store rfl _ (.tmp 120) (.tmp 119) rfl q15 { q15 with ch := .slice p16 m16 c16 } _ _ rfl [.slice p16 m16 c16] rfl (r15.out.bel g16.out) (by kernel_rfl) (s_one _ _ _) (Nat.le_of_ble_eq_true rfl) rfl ?_; intro V17 r17 g17))
          obtain ⟨ok15, e115, hl15, far15, e215⟩ := HQ15.out
          have Q16 := Lib.hid (Q15.out.bel g16.out)
          have hl16 : ∃ l : List F3.Ent, F3.LAt w16 q15.fs l ∧ l.length ≤ s.lr := by obtain ⟨l, hl, hn⟩ := hl15; exact ⟨l, hl.bel g16.out, hn⟩
          clear x10 SC Q15 gA sA hl15
          go_simp
          have Q17 := Q16.out.put r17.out g17 ⟨ok15.fs, ok15.ms, ok15.tp, ok15.ts, rfl, ok15.ot⟩ e115 e215 (L' := s.lr) hl16 far15
          have Q17 := Lib.hid Q17
          clear g17 Q16
          refine wp_region_any (by kernel_rfl) ?_
          change wpAny _ _ _ _ _ _ _ (World.drew _)
          have QE := Lib.hid (Q17.out.bel (Below.drew (Below.refl _ _)))
          have RE := Lib.hid (r17.out.bel (Below.drew (Below.refl _ _)))
          generalize V17.drew = VE at QE RE ⊢
          refine wpAny_take (i := 0) (v := ?_) rfl (by kernel_rfl) (by kernel_rfl) (by kernel_rfl) (fun _ _ _ h => h) (Or.inl ⟨by rfl, ?_⟩) ?_
          rotate_left
          · (intro W; go_simp; try with_reducible rfl)
          refine wpAny_take (i := 2) (v := ?_) rfl (by kernel_rfl) (by kernel_rfl) (by kernel_rfl) (fun _ _ _ h => h) (Or.inl ⟨by rfl, ?_⟩) ?_
          rotate_left
          · (intro W; go_simp; try with_reducible rfl)
          refine wpAny_ready (rs := [1]) (by kernel_rfl) (by simp) ?_
          refine AllReady.cons rfl (fun K hK => ?_) AllReady.nil
          refine step_load rfl (.tmp 6) rfl z { q15 with ch := .slice p16 m16 c16 } rfl RE.out ?_
          refine hK _ _ ?_
          clear hK K
          refine wpAny_ready (rs := [3]) (by kernel_rfl) (by simp) ?_
          refine AllReady.cons rfl (fun K hK => ?_) AllReady.nil
          refine step_whole rfl (.tmp 3) (.tmp 122) rfl (w.heap.size + 1) rzero { q15 with ch := .slice p16 m16 c16 } rfl rfl QE.out.z2 ⟨ok15.fs, ok15.ms, ok15.tp, ok15.ts, rfl, ok15.ot⟩ ?_
          intro V18 r18 g18
          refine hK _ _ ?_
          clear hK K
          refine wpAny_done (by kernel_rfl) ?_ _
          have T18 : Turns (fun i => i = w.heap.size + 1) VE V18 := Turns.of_only g18.out rfl
          have P18 := Lib.hid (QE.out.P.turns T18 (fun i hi e => QE.out.g2 (e ▸ hi)) (fun i e ht => by have h1 := QE.out.t.lt ht; omega))
          have G18 := Lib.hid (Turns.bel QE.out.g T18 (fun i e => by omega))
          have L18 := Lib.hid QE.out.low
          clear T18 g18 Q17 QE RE
          go_wp2_with fail
          exact q_ret3 rfl rfl r18.out rfl ⟨b, fb, mb, g, x', cs', os, G', _, rfl, ⟨ok15.fs, ok15.ms, ok15.tp, ok15.ts, rfl, ok15.ot⟩, e115, P18.out, G18.out, L18.out⟩
end Go.Proofs.YtoecanjhkbeemaaGreatDoor.K6
