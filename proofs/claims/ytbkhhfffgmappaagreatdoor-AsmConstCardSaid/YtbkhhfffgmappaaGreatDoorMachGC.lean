/- AsmConst's arithmetic: what a machine of two windows comes to that does a constant's instructions. Package mach as it has landed: Load. The walk of layer 7's statement AsmConst: it returns true; of what was there nothing has turned. The law AsmConst returns true for every input, and its arguments read afterwards as before, in every heap in which the two listed package-level tables read as the program's own text lays them (the card ties that); no other condition. -/
import Derived.Test.YtbkhhfffgmappaaGreatDoorMachGA
import Derived.Test.YtbkhhfffgmappaaGreatDoorMachGI
import Derived.Test.YtbkhhfffgmappaaGreatDoorAsmGB
import Derived.Test.YtbkhhfffgmappaaGreatDoorMachGJ
import Derived.LoopN
import Derived.LoopTactic
import Derived.Test.YtbkhhfffgmappaaGreatDoorMachGO
import Derived.Test.YtbkhhfffgmappaaGreatDoorCards
import Derived.Test.YtbkhhfffgmappaaGreatDoorTie
import Derived.SevenTiedAt
namespace Go.Proofs.YtbkhhfffgmappaaGreatDoor.K6
open Go.RowKit
set_option linter.unusedVariables false
theorem ld_st {f : Nat → Int} {a : Nat} {v : Int} (hv : W32 v) : ldB (stB f a 4 v) a 4 = v := by
  obtain ⟨h0, h1⟩ := hv
  have e : ∀ k, k < 4 → stB f a 4 v (a + k) = v / 256 ^ (3 - k) % 256 := fun k hk => by
    unfold stB; rw [if_pos (by omega), show a + 4 - 1 - (a + k) = 3 - k by omega]
  simp only [ldB]
  rw [e 0 (by decide), e 1 (by decide), e 2 (by decide), e 3 (by decide)]
  simp only [Nat.sub_zero, show 3 - 1 = 2 from rfl, show 3 - 2 = 1 from rfl, show 3 - 3 = 0 from rfl]
  have p3 : (256 : Int) ^ 3 = 16777216 := rfl
  have p2 : (256 : Int) ^ 2 = 65536 := rfl
  have p1 : (256 : Int) ^ 1 = 256 := rfl
  have p0 : (256 : Int) ^ 0 = 1 := rfl
  rw [p3, p2, p1, p0]
  omega
theorem ld_far {f : Nat → Int} {a c : Nat} {v : Int} (h : c + 4 ≤ a ∨ a + 4 ≤ c) : ldB (stB f a 4 v) c 4 = ldB f c 4 := by
  have e : ∀ k, k < 4 → stB f a 4 v (c + k) = f (c + k) := fun k hk => by unfold stB; rw [if_neg (by omega)]
  simp only [ldB]
  rw [e 0 (by decide), e 1 (by decide), e 2 (by decide), e 3 (by decide)]
open A7 in
/-- The machine that has a constant's words. -/
def c0 (g : Nat → Int) (k : Nat) : MS := { mnew 2 64 with f := ptB (fun _ => 0) 0 g k }
/-- .. and that has done them. -/
def cF (g : Nat → Int) (k : Nat) (rd u : Int) : MS := { c0 g k with R := F3.setR (fun _ => 0) 2 0 0 rd u, pc := 4 * k }
theorem c0_first {g : Nat → Int} {k : Nat} (hg : W32 (g 0)) (hk : k = 1 ∨ k = 2) : ldB (c0 g k).f 0 4 = g 0 := by
  rcases hk with rfl | rfl
  · exact ld_st hg
  · show ldB (stB (stB (fun _ => 0) (0 + 4 * 0) 4 (g 0)) (0 + 4 * 1) 4 (g 1)) 0 4 = g 0
    rw [ld_far (by omega)]
    exact ld_st hg
theorem c0_second {g : Nat → Int} (hg : W32 (g 1)) : ldB (c0 g 2).f 4 4 = g 1 := by
  show ldB (stB (stB (fun _ => 0) (0 + 4 * 0) 4 (g 0)) (0 + 4 * 1) 4 (g 1)) 4 4 = g 1
  exact ld_st hg
/-- A step at a word that lies at the PC. -/
theorem step_word {m : MS} {x : A7.XI} (hx : A7.XB x) (hm : x.may = true) (hs : m.sk = 0) (hp : 0 ≤ m.pil) (ht : thE m.sz m.pc 4 = 0) (hw : ldB m.f m.pc.toNat 4 = x.word) :
    mstep m 0 = mExec m x.o x.d x.n (m.get x.s) (if x.b then x.n % 4294967296 else m.get x.t) ∧ I2.dO (ldB m.f m.pc.toNat 4) = x.o := by
  have e : x.word = I2.enc x.o x.d x.s x.t x.b x.n := I2.eW_yes hm
  obtain ⟨d1, d2, d3, d4, d5, d6, d7⟩ := I2.back_enc hx.o hx.d hx.s hx.t hm
  rw [hw, e]
  refine ⟨?_, d2⟩
  unfold mstep
  rw [if_neg (by simpa using hs), if_neg (by omega), if_pos ht, hw, e]
  unfold mWord
  rw [d1, d2, d3, d4, d5, d6, d7]
  rfl
theorem or_sum (u : Int) (hu : W32 u) : bits .or .u32 (u / 2048 * 2048) (u % 2048) = u := by
  rw [I2.or_add 11 2048 _ _ rfl ⟨by have := hu.1; omega, by have := hu.2; omega⟩ (by omega) ⟨by omega, by omega⟩ (by have := hu.2; omega)]
  omega
theorem setR_two (n win bank rd a b : Int) (R : Nat → Int) : F3.setR (F3.setR R n win bank rd a) n win bank rd b = F3.setR R n win bank rd b := by
  unfold F3.setR
  split
  · rfl
  · funext j; unfold F3.upd; split <;> rfl
theorem setR_zero (n win bank : Int) (R : Nat → Int) (v : Int) (h : R = fun _ => 0) (rd : Int) : F3.setR R n win bank rd 0 = R := by
  subst h
  unfold F3.setR
  split
  · rfl
  · funext j; unfold F3.upd; split <;> rfl
section
variable {rd u : Int} (hr : 0 ≤ rd ∧ rd ≤ 31) (hu : W32 u)
include hr hu
theorem word_w (i : Nat) : W32 (A7.cX rd u i).word := by
  have hx := A7.cX_b rd u i ⟨hr.1, by omega⟩ hu
  exact I2.eW_bd hx.o hx.d hx.s hx.t
theorem may_c (i : Nat) : (A7.cX rd u i).may = true := by rw [A7.cX_may rd u i ⟨hr.1, by omega⟩ hu]; exact decide_eq_true hr.2
/-- One instruction is enough. -/
theorem const_one (hk : A7.cK u = 1) : mstep (c0 (fun i => (A7.cX rd u i).word) 1) 0 = cF (fun i => (A7.cX rd u i).word) 1 rd u ∧ (I2.dO (ldB (c0 (fun i => (A7.cX rd u i).word) 1).f 0 4) = 1 ∨ I2.dO (ldB (c0 (fun i => (A7.cX rd u i).word) 1).f 0 4) = 15) := by
  have hx := A7.cX_b rd u 0 ⟨hr.1, by omega⟩ hu
  obtain ⟨S, D⟩ := step_word (m := c0 (fun i => (A7.cX rd u i).word) 1) hx (may_c hr hu 0) rfl (Int.le_refl _) (show thE ((64 : Nat) : Int) 0 4 = 0 by decide) (c0_first (word_w hr hu 0) (.inl rfl))
  change I2.dO (ldB (c0 (fun i => (A7.cX rd u i).word) 1).f 0 4) = (A7.cX rd u 0).o at D
  rw [S, D]
  generalize hg : (fun i => (A7.cX rd u i).word) = g
  have hu' := hu
  obtain ⟨hu0, hu1⟩ := hu'
  by_cases hs : A7.small u = true
  · have e : A7.cX rd u 0 = ⟨1, rd, 0, 0, true, A7.sgn u⟩ := by unfold A7.cX; rw [if_pos hs]
    rw [e]
    refine ⟨?_, .inl rfl⟩
    have hv : A7.sgn u % 4294967296 = u := by unfold A7.sgn; split <;> omega
    have hd : ((0 : Int) + u) % 4294967296 = u := by omega
    show mAlu (c0 g 1) 1 rd 0 (A7.sgn u % 4294967296) = _
    rw [hv]
    show ((c0 g 1).set rd ((0 + u) % 4294967296)).on = _
    rw [hd]
    rfl
  · have hs' : A7.small u = false := by simpa using hs
    have hz : u % 2048 = 0 := by
      unfold A7.cK at hk; rw [hs'] at hk
      by_cases h : u % 2048 = 0
      · exact h
      · rw [if_neg h] at hk; cases hk
    have e : A7.cX rd u 0 = ⟨15, rd, 0, 0, true, u / 2048⟩ := by unfold A7.cX; rw [hs']; rfl
    rw [e]
    refine ⟨?_, .inr rfl⟩
    have hd : u / 2048 % 4294967296 * 2048 % 4294967296 = u := by omega
    show ((c0 g 1).set rd (u / 2048 % 4294967296 * 2048 % 4294967296)).on = _
    rw [hd]
    rfl
/-- .. or two are. -/
theorem const_two (hk : A7.cK u = 2) : ∃ m, mstep (c0 (fun i => (A7.cX rd u i).word) 2) 0 = m ∧ mstep m 0 = cF (fun i => (A7.cX rd u i).word) 2 rd u ∧ I2.dO (ldB (c0 (fun i => (A7.cX rd u i).word) 2).f 0 4) = 15 ∧ I2.dO (ldB m.f m.pc.toNat 4) = 7 ∧ m.sk = 0 ∧ m.sv = 0 ∧ m.ol = 0 := by
  have hu' := hu
  obtain ⟨hu0, hu1⟩ := hu'
  have hs' : A7.small u = false := by
    cases h : A7.small u
    · rfl
    · unfold A7.cK at hk; rw [h] at hk; cases hk
  have e0 : A7.cX rd u 0 = ⟨15, rd, 0, 0, true, u / 2048⟩ := by unfold A7.cX; rw [hs']; rfl
  have e1 : A7.cX rd u 1 = ⟨7, rd, rd, 0, true, u % 2048⟩ := by unfold A7.cX; rw [hs']; rfl
  have hx0 := A7.cX_b rd u 0 ⟨hr.1, by omega⟩ hu
  have hx1 := A7.cX_b rd u 1 ⟨hr.1, by omega⟩ hu
  obtain ⟨S, D⟩ := step_word (m := c0 (fun i => (A7.cX rd u i).word) 2) hx0 (may_c hr hu 0) rfl (Int.le_refl _) (show thE ((64 : Nat) : Int) 0 4 = 0 by decide) (c0_first (word_w hr hu 0) (.inr rfl))
  have hd : u / 2048 % 4294967296 * 2048 % 4294967296 = u / 2048 * 2048 := by omega
  have S' : mstep (c0 (fun i => (A7.cX rd u i).word) 2) 0 = { c0 (fun i => (A7.cX rd u i).word) 2 with R := F3.setR (fun _ => 0) 2 0 0 rd (u / 2048 * 2048), pc := 4 } := by
    rw [S, e0]
    show ((c0 (fun i => (A7.cX rd u i).word) 2).set rd (u / 2048 % 4294967296 * 2048 % 4294967296)).on = _
    rw [hd]
    rfl
  refine ⟨_, S', ?_, D.trans (by rw [e0]), ?_, rfl, rfl, rfl⟩
  · obtain ⟨S2, D2⟩ := step_word (m := { c0 (fun i => (A7.cX rd u i).word) 2 with R := F3.setR (fun _ => 0) 2 0 0 rd (u / 2048 * 2048), pc := 4 }) hx1 (may_c hr hu 1) rfl (Int.le_refl _) (show thE ((64 : Nat) : Int) 4 4 = 0 by decide) (c0_second (word_w hr hu 1))
    rw [S2, e1]
    have hm : u % 2048 % 4294967296 = u % 2048 := by omega
    have hz : ¬ rd = 0 → F3.setR (fun _ => 0) 2 0 0 rd (u / 2048 * 2048) (F3.loc 2 0 0 rd) = u / 2048 * 2048 := fun h => by
      unfold F3.setR; rw [if_neg h]; unfold F3.upd; rw [if_pos rfl]
    show ((MS.set { c0 (fun i => (A7.cX rd u i).word) 2 with R := F3.setR (fun _ => 0) 2 0 0 rd (u / 2048 * 2048), pc := 4 } rd (bits .or .u32 (F3.setR (fun _ => 0) 2 0 0 rd (u / 2048 * 2048) (F3.loc 2 0 0 rd)) (u % 2048 % 4294967296)))).on = _
    rw [hm]
    have hR : F3.setR (F3.setR (fun _ => 0) 2 0 0 rd (u / 2048 * 2048)) 2 0 0 rd (bits .or .u32 (F3.setR (fun _ => 0) 2 0 0 rd (u / 2048 * 2048) (F3.loc 2 0 0 rd)) (u % 2048)) = F3.setR (fun _ => 0) 2 0 0 rd u := by
      rw [setR_two]
      by_cases h : rd = 0
      · unfold F3.setR; rw [if_pos h, if_pos h]
      · rw [hz h, or_sum u hu]
    show MS.on { c0 (fun i => (A7.cX rd u i).word) 2 with R := F3.setR (F3.setR (fun _ => 0) 2 0 0 rd (u / 2048 * 2048)) 2 0 0 rd (bits .or .u32 (F3.setR (fun _ => 0) 2 0 0 rd (u / 2048 * 2048) (F3.loc 2 0 0 rd)) (u % 2048)), pc := 4 } = _
    rw [hR]
    rfl
  · obtain ⟨S2, D2⟩ := step_word (m := { c0 (fun i => (A7.cX rd u i).word) 2 with R := F3.setR (fun _ => 0) 2 0 0 rd (u / 2048 * 2048), pc := 4 }) hx1 (may_c hr hu 1) rfl (Int.le_refl _) (show thE ((64 : Nat) : Int) 4 4 = 0 by decide) (c0_second (word_w hr hu 1))
    exact D2.trans (by rw [e1])
end
/-- What the law reads. -/
theorem cF_get (g : Nat → Int) (k : Nat) (rd u : Int) (r : Nat) (hr : 0 ≤ rd ∧ rd ≤ 31) (h : r < 32) : (cF g k rd u).R (F3.loc 2 0 0 r) = if (r : Int) = rd ∧ 0 < r then u else 0 := by
  show F3.setR (fun _ => 0) 2 0 0 rd u (F3.loc 2 0 0 r) = _
  unfold F3.setR
  by_cases h0 : rd = 0
  · rw [if_pos h0, if_neg (by omega)]
  · rw [if_neg h0]
    unfold F3.upd
    by_cases e : (r : Int) = rd
    · subst e
      rw [if_pos rfl, if_pos ⟨rfl, by omega⟩]
    · have hl : F3.loc 2 0 0 r ≠ F3.loc 2 0 0 rd := by
        unfold F3.loc
        split <;> split <;> (try split) <;> (try split) <;> (try split) <;> omega
      rw [if_neg hl, if_neg (fun h => e h.1)]
end Go.Proofs.YtbkhhfffgmappaaGreatDoor.K6
namespace Go.Proofs.YtbkhhfffgmappaaGreatDoor.K6
open Go.RowKit
set_option linter.unusedVariables false
section
variable {w : World} {b fb mb g x : Nat} {cs os : Value} {G : Nat → Prop} {m : MS}
theorem Load_at {t : Value} {l : Nat} {f : Nat → Int} (h : MachP w b fb mb g x cs os G m) (hs : Sl .u32 w t l f) (hf : ∀ i, W32 (f i)) (he : spE m.sz 0 l = 0) :
    Calls Tryz.prog 32 #[.pointer (some ⟨b, 0, none⟩), t] w fun e w' => e = .returned (.int .i64 0) ∧ MachP w' b fb mb g x cs os G { m with f := ptB m.f 0 f l } ∧ w.grownBy w' (some g) := by
  obtain ⟨k0, k1, _⟩ := h.cells
  have C := Lib.hid (M5.put_yes 0 h.mem hs hf he)
  have P := Lib.hid h
  clear h hs hf he
  go_enter Tryz.func32, Tryz.ntmps32
  go_wp2_with fail
  refine (isObject_yes b _ _ k0).mono ?_; rintro e w1 ⟨rfl, rfl⟩
  go_wp2_with fail
  refine (show Calls _ _ #[_, .int .u32 0, _] _ _ from C.out).mono ?_; rintro e w2 ⟨rfl, M, g2⟩
  have P2 := Lib.hid (P.out.memd g2 M)
  have G2 := Lib.hid g2
  clear M g2
  go_wp2_with fail
  go_ret
  exact ⟨rfl, P2.out, G2.out⟩
end
end Go.Proofs.YtbkhhfffgmappaaGreatDoor.K6
namespace Go.Proofs.YtbkhhfffgmappaaGreatDoor.K6
open Go.RowKit
set_option linter.unusedVariables false
theorem const_words (rd u : Int) : ∃ f, (A7.AS.nil.const rd u).words = some f ∧ ∀ i, i < A7.cK u → f i = (A7.cX rd u i).word := by
  refine ⟨(A7.AS.nil.const rd u).ws, ?_, fun i hi => ?_⟩
  · have hj : (A7.AS.nil.const rd u).js = [] := A7.AS.adds_js _ _ _
    unfold A7.AS.words
    rw [hj]
    rfl
  · have key : ∀ (k : Nat) (i : Nat), i < k → (A7.AS.nil.adds (fun i => (A7.cX rd u i).word) k).ws i = (A7.cX rd u i).word := by
      intro k
      induction k with
      | zero => intro i hi; omega
      | succ k ih =>
        intro i hi
        simp only [A7.AS.adds, A7.AS.add, F3.upd]
        have hn : (A7.AS.nil.adds (fun i => (A7.cX rd u i).word) k).n = k := by rw [A7.AS.adds_n]; exact Nat.zero_add k
        rw [hn]
        by_cases e : i = k
        · rw [if_pos e, e]
        · rw [if_neg e]; exact ih i (by omega)
    exact key _ i hi
theorem const_n (rd u : Int) : (A7.AS.nil.const rd u).n = A7.cK u := by
  unfold A7.AS.const; rw [A7.AS.adds_n]; exact Nat.zero_add _
theorem one_file {a w : World} {b : Nat} {G : Nat → Prop} {m : MS} (h : AllM a w [⟨b, G, m⟩]) :
    Calls Tryz.prog 28 #[.pointer (some ⟨b, 0, none⟩)] w fun e w' => ∃ fb, e = .returned (.pointer (some ⟨fb, 0, none⟩)) ∧ w = w' ∧ F3.FileAt w fb m.nw m.R := by
  obtain ⟨fb, mb, g, x, cs, os, P⟩ := h.at' 0 _ rfl
  exact (File_get P).mono fun e w' ⟨e1, e2⟩ => ⟨fb, e1, e2, P.file⟩
theorem stop_field (k v : Int) (W : World) : Sem.run Tryz.prog (Instr.field 37 (.agg #[.int .u8 k, .int .u32 v]) 0) W = .ok (.int .u8 k) W := by kernel_rfl
theorem named_r {r : Nat} (h : r < 32) : F3.Named 2 0 0 r := ⟨by decide, by decide, by decide, by decide, by omega, by omega⟩
set_option maxHeartbeats 2000000 in
theorem const_bad (rd u : Int) (w : World) (hT : Tabs w) (hr : 31 < rd) (hr' : rd ≤ 255) (hu : W32 u) :
    Calls Tryz.prog 10 #[.int .u8 rd, .int .u32 u] w fun e w' => e = .returned (.bool true) ∧ Below w.heap.size w w' := by
  have HT := Lib.hid hT
  have HU := Lib.hid hu
  clear hT hu
  go_enter Tryz.func10, Tryz.ntmps10
  go_wp2_with fail
  refine (A7.New_at (K := fun _ => False) w HT.out.i (fun _ e => e.elim)).mono ?_; rintro e w1 ⟨a, G, rfl, A1, g1, low1⟩
  have A1 := Lib.hid A1
  have G1 := Lib.hid g1
  have L1 := Lib.hid low1
  clear g1 low1
  go_wp2_with fail
  refine (A7.Const_bad (q := A7.AS.nil) rd u A1.out ⟨hr, hr'⟩ HU.out (by decide)).mono ?_; rintro e w2 ⟨rfl, ⟨G', A2, T2, lo2⟩⟩
  have A2 := Lib.hid A2
  have B2 := Lib.hid (A7.Turns.bel G1.out T2 L1.out)
  clear T2 lo2 A1 G1 L1
  go_wp2_with fail
  refine (A7.Len_at A2.out).mono ?_; rintro e w3 ⟨rfl, rfl⟩
  rw [show ((A7.AS.nil.n : Nat) : Int) = 0 from rfl]
  go_wp2_with fail
  refine (A7.head_at _ (HT.out.bel B2.out).i).mono ?_; rintro e w4 ⟨rfl, g4⟩
  have B4 := Lib.hid (bel_trans B2.out g4)
  clear g4
  go_wp2_with fail
  go_ret
  exact ⟨rfl, B4.out⟩
set_option maxHeartbeats 8000000 in
set_option maxRecDepth 20000 in
theorem const_1 (rd u : Int) (w : World) (hT : Tabs w) (hr0 : 0 ≤ rd) (hr1 : rd ≤ 31) (hu : W32 u) (hk : A7.cK u = 1) :
    Calls Tryz.prog 10 #[.int .u8 rd, .int .u32 u] w fun e w' => e = .returned (.bool true) ∧ Below w.heap.size w w' := by
  have HT := Lib.hid hT
  have HU := Lib.hid hu
  have HK := Lib.hid hk
  have hwi : IntKind.i64.wrap rd = rd := by simp [IntKind.wrap, IntKind.bits, IntKind.signed]; omega
  obtain ⟨f, hf, hfe⟩ := const_words rd u
  have HF := Lib.hid hf
  have HE := Lib.hid hfe
  have HN := Lib.hid (const_n rd u)
  have HR : Hid (0 ≤ rd ∧ rd ≤ 31) := ⟨hr0, hr1⟩
  have hst := stop_field 0 0
  have h31 : decide ((31 : Int) < rd) = false := by simp; omega
  have ST := Lib.hid (const_one HR.out hu hk)
  have HG : Hid (∀ i, W32 ((A7.cX rd u i).word)) := fun i => word_w HR.out hu i
  have CG : Hid (∀ r : Nat, r < 32 → (cF (fun i => (A7.cX rd u i).word) 1 rd u).R (F3.loc 2 0 0 r) = if (r : Int) = rd ∧ 0 < r then u else 0) := fun r h => cF_get _ _ rd u r HR.out h
  clear hT hu hk hf hfe
  go_enter Tryz.func10, Tryz.ntmps10
  go_wp2_with fail
  refine (A7.New_at (K := fun _ => False) w HT.out.i (fun _ e => e.elim)).mono ?_; rintro e w1 ⟨a, G, rfl, A1, g1, low1⟩
  have A1 := Lib.hid A1
  have G1 := Lib.hid g1
  have L1 := Lib.hid low1
  clear g1 low1
  go_wp2_with fail
  refine (A7.Const_yes (q := A7.AS.nil) rd u A1.out HR.out HU.out (by decide)).mono ?_; rintro e w2 ⟨rfl, ⟨G', A2, T2, lo2⟩⟩
  have A2 := Lib.hid A2
  have B2 := Lib.hid (A7.Turns.bel G1.out T2 L1.out)
  clear T2 lo2 A1 G1 L1
  go_wp2_with fail
  refine (A7.Words_any A2.out).mono ?_
  rintro e w3 (⟨f', v, hf', rfl, own, g3⟩ | ⟨hf', _⟩)
  case inr => rw [HF.out] at hf'; cases hf'
  have SL : Hid (Sl .u32 w3 v 1 (fun i => (A7.cX rd u i).word)) := by
    rw [HF.out] at hf'
    injection hf' with hf'
    subst hf'
    rw [HN.out, HK.out] at own
    exact (own_sl own).congr fun i hi => HE.out i (by rw [HK.out]; exact hi)
  have B3 := Lib.hid (bel_trans B2.out g3)
  clear own g3 hf' A2 B2 HF HE HN
  obtain ⟨vp, vc, rfl, _⟩ := SL.out
  go_wp2_with fail
  refine (New_at 2 64 w3 (by decide) (by decide) ⟨by decide, by decide, by decide⟩ (HT.out.bel B3.out)).mono ?_; rintro e w4 ⟨b, Gm, rfl, ⟨fb, mb, gm, x, cs, os, P4⟩, g4, low4⟩
  have P4 := Lib.hid P4
  have SL4 := Lib.hid (SL.out.bel g4)
  have B4 := Lib.hid (bel_trans B3.out g4)
  have L4 : Hid (∀ i, Gm i → w.heap.size ≤ i) := fun i hi => Nat.le_trans B3.out.size (low4 i hi)
  clear g4 low4 SL
  go_wp2_with fail
  refine (Load_at P4.out SL4.out HG.out (by decide)).mono ?_; rintro e w5 ⟨rfl, P5, g5⟩
  have A5 : Hid (AllM w w5 [⟨b, Gm, c0 (fun i => (A7.cX rd u i).word) 1⟩]) := (AllM.none HT.out).add (only_bel B4.out g5 (L4.out _ P4.out.gg)) P5.b L4.out
  clear P4 P5 g5 B4 L4 SL4 B3
  go_wp2_with fail
  refine wp_loop_rounds 2 ?_
  rw [rounds_succ]
  go_wp2_with fail
  refine (all_step (k := 0) (v := 0) 0 A5.out (j := 0) rfl (by decide) (by decide) (Nat.zero_le _) (fun _ _ _ => ST.out.2.elim (fun e => easy_of (show I2.dO (ldB (c0 (fun i => (A7.cX rd u i).word) 1).f 0 4) = 1 from e) (by decide) (by decide)) (fun e => easy_of (show I2.dO (ldB (c0 (fun i => (A7.cX rd u i).word) 1).f 0 4) = 15 from e) (by decide) (by decide))) (by rw [ST.out.1]; rfl) (by rw [ST.out.1]; rfl)).mono ?_; rintro e w6 ⟨rfl, K6, M6, _⟩
  have A6 : Hid (AllM w w6 [⟨b, K6, cF (fun i => (A7.cX rd u i).word) 1 rd u⟩]) := by rw [← ST.out.1]; exact M6
  clear M6 A5 ST
  go_wp2_with fail
  rw [rounds_succ]
  have KF : Hid ((cF (fun i => (A7.cX rd u i).word) 1 rd u).nw = 2 ∧ (cF (fun i => (A7.cX rd u i).word) 1 rd u).pc = 4 ∧ (cF (fun i => (A7.cX rd u i).word) 1 rd u).cwp = 0 ∧ (cF (fun i => (A7.cX rd u i).word) 1 rd u).pil = 0 ∧ (cF (fun i => (A7.cX rd u i).word) 1 rd u).bank = 0 ∧ (cF (fun i => (A7.cX rd u i).word) 1 rd u).fl = 0) := ⟨rfl, rfl, rfl, rfl, rfl, rfl⟩
  generalize cF (fun i => (A7.cX rd u i).word) 1 rd u = mF at A6 KF CG
  go_wp2_with fail
  go_loopw [12] (fun i wr => ∃ r : Nat, r ≤ 32 ∧ i = .int .i64 r ∧ AllM w wr [⟨b, K6, mF⟩]) (fun i _ => 32 - (intOf i).toNat)
  case atStart => exact ⟨0, Nat.zero_le _, rfl, A6.out⟩
  case round =>
    obtain ⟨r, hr, rfl, hA⟩ := hrel
    have A7' := Lib.hid hA
    clear hA
    by_cases hlt : r < 32
    · have hc := CG.out r hlt
      go_wp2_with fail
      refine (one_file A7'.out).mono ?_; rintro e w8 ⟨fb8, rfl, rfl, F8⟩
      have HGET := F3.get_at fb8 mF.nw 0 0 r mF.R _ F8 (by rw [KF.out.1]; decide) (by rw [KF.out.1]; decide) (by rw [KF.out.1]; exact named_r hlt)
      rw [KF.out.1] at HGET
      clear F8
      by_cases h0 : r = 0
      · subst h0
        rw [hc, if_neg (fun h => Nat.lt_irrefl _ h.2)] at HGET
        have HGET := Lib.hid HGET
        clear hc
        by_cases hz : rd = 0
        · subst hz
          go_wp2_with fail
          refine HGET.out.mono ?_; rintro e w9 ⟨rfl, g9⟩
          have A9 := Lib.hid (A7'.out.more g9)
          clear g9 HGET A7'
          go_wp2_with fail
          exact ⟨⟨1, by decide, rfl, A9.out⟩, by simp [intOf]⟩
        · have hz' : ¬ (0 : Int) = rd := fun e => hz e.symm
          go_wp2_with fail
          refine HGET.out.mono ?_; rintro e w9 ⟨rfl, g9⟩
          have A9 := Lib.hid (A7'.out.more g9)
          clear g9 HGET A7'
          go_wp2_with fail
          exact ⟨⟨1, by decide, rfl, A9.out⟩, by simp [intOf]⟩
      · by_cases h1 : (r : Int) = rd
        · rw [hc, if_pos ⟨h1, Nat.pos_of_ne_zero h0⟩] at HGET
          have HGET := Lib.hid HGET
          clear hc
          subst h1
          have hp : (0 : Int) < (r : Int) := by omega
          clear h0
          go_wp2_with fail
          refine HGET.out.mono ?_; rintro e w9 ⟨rfl, g9⟩
          have A9 := Lib.hid (A7'.out.more g9)
          clear g9 HGET A7'
          go_wp2_with fail
          exact ⟨⟨r + 1, by omega, by push_cast; rfl, A9.out⟩, by simp [intOf]; omega⟩
        · rw [hc, if_neg (fun h => h1 h.1)] at HGET
          have HGET := Lib.hid HGET
          clear hc
          clear h0
          go_wp2_with fail
          refine HGET.out.mono ?_; rintro e w9 ⟨rfl, g9⟩
          have A9 := Lib.hid (A7'.out.more g9)
          clear g9 HGET A7'
          go_wp2_with fail
          exact ⟨⟨r + 1, by omega, by push_cast; rfl, A9.out⟩, by simp [intOf]; omega⟩
    · obtain rfl : r = 32 := by omega
      go_wp2_with fail
      refine (all_pc A7'.out (j := 0) rfl KF.out.2.1).mono ?_; rintro e w9 ⟨rfl, A9⟩
      have A9 := Lib.hid A9
      go_wp2_with fail
      refine (all_psr A9.out (j := 0) rfl KF.out.2.2.1 KF.out.2.2.2.1 KF.out.2.2.2.2.1 KF.out.2.2.2.2.2).mono ?_; rintro e w10 ⟨rfl, A10, g10⟩
      have A10 := Lib.hid A10
      clear g10 A9
      go_wp2_with fail
      refine (A7.head_at _ A10.out.tab.i).mono ?_; rintro e w11 ⟨rfl, g11⟩
      have B11 := Lib.hid (bel_trans A10.out.bel g11)
      clear g11 A10
      go_wp2_with fail
      go_ret
      exact ⟨rfl, B11.out⟩
set_option maxHeartbeats 8000000 in
set_option maxRecDepth 20000 in
theorem const_2 (rd u : Int) (w : World) (hT : Tabs w) (hr0 : 0 ≤ rd) (hr1 : rd ≤ 31) (hu : W32 u) (hk : A7.cK u = 2) :
    Calls Tryz.prog 10 #[.int .u8 rd, .int .u32 u] w fun e w' => e = .returned (.bool true) ∧ Below w.heap.size w w' := by
  have HT := Lib.hid hT
  have HU := Lib.hid hu
  have HK := Lib.hid hk
  have hwi : IntKind.i64.wrap rd = rd := by simp [IntKind.wrap, IntKind.bits, IntKind.signed]; omega
  obtain ⟨f, hf, hfe⟩ := const_words rd u
  have HF := Lib.hid hf
  have HE := Lib.hid hfe
  have HN := Lib.hid (const_n rd u)
  have HR : Hid (0 ≤ rd ∧ rd ≤ 31) := ⟨hr0, hr1⟩
  have hst := stop_field 0 0
  have h31 : decide ((31 : Int) < rd) = false := by simp; omega
  obtain ⟨m1, ST⟩ := const_two HR.out hu hk
  have ST := Lib.hid ST
  have HG : Hid (∀ i, W32 ((A7.cX rd u i).word)) := fun i => word_w HR.out hu i
  have CG : Hid (∀ r : Nat, r < 32 → (cF (fun i => (A7.cX rd u i).word) 2 rd u).R (F3.loc 2 0 0 r) = if (r : Int) = rd ∧ 0 < r then u else 0) := fun r h => cF_get _ _ rd u r HR.out h
  clear hT hu hk hf hfe
  go_enter Tryz.func10, Tryz.ntmps10
  go_wp2_with fail
  refine (A7.New_at (K := fun _ => False) w HT.out.i (fun _ e => e.elim)).mono ?_; rintro e w1 ⟨a, G, rfl, A1, g1, low1⟩
  have A1 := Lib.hid A1
  have G1 := Lib.hid g1
  have L1 := Lib.hid low1
  clear g1 low1
  go_wp2_with fail
  refine (A7.Const_yes (q := A7.AS.nil) rd u A1.out HR.out HU.out (by decide)).mono ?_; rintro e w2 ⟨rfl, ⟨G', A2, T2, lo2⟩⟩
  have A2 := Lib.hid A2
  have B2 := Lib.hid (A7.Turns.bel G1.out T2 L1.out)
  clear T2 lo2 A1 G1 L1
  go_wp2_with fail
  refine (A7.Words_any A2.out).mono ?_
  rintro e w3 (⟨f', v, hf', rfl, own, g3⟩ | ⟨hf', _⟩)
  case inr => rw [HF.out] at hf'; cases hf'
  have SL : Hid (Sl .u32 w3 v 2 (fun i => (A7.cX rd u i).word)) := by
    rw [HF.out] at hf'
    injection hf' with hf'
    subst hf'
    rw [HN.out, HK.out] at own
    exact (own_sl own).congr fun i hi => HE.out i (by rw [HK.out]; exact hi)
  have B3 := Lib.hid (bel_trans B2.out g3)
  clear own g3 hf' A2 B2 HF HE HN
  obtain ⟨vp, vc, rfl, _⟩ := SL.out
  go_wp2_with fail
  refine (New_at 2 64 w3 (by decide) (by decide) ⟨by decide, by decide, by decide⟩ (HT.out.bel B3.out)).mono ?_; rintro e w4 ⟨b, Gm, rfl, ⟨fb, mb, gm, x, cs, os, P4⟩, g4, low4⟩
  have P4 := Lib.hid P4
  have SL4 := Lib.hid (SL.out.bel g4)
  have B4 := Lib.hid (bel_trans B3.out g4)
  have L4 : Hid (∀ i, Gm i → w.heap.size ≤ i) := fun i hi => Nat.le_trans B3.out.size (low4 i hi)
  clear g4 low4 SL
  go_wp2_with fail
  refine (Load_at P4.out SL4.out HG.out (by decide)).mono ?_; rintro e w5 ⟨rfl, P5, g5⟩
  have A5 : Hid (AllM w w5 [⟨b, Gm, c0 (fun i => (A7.cX rd u i).word) 2⟩]) := (AllM.none HT.out).add (only_bel B4.out g5 (L4.out _ P4.out.gg)) P5.b L4.out
  clear P4 P5 g5 B4 L4 SL4 B3
  go_wp2_with fail
  refine wp_loop_rounds 3 ?_
  rw [rounds_succ]
  go_wp2_with fail
  refine (all_step (k := 0) (v := 0) 0 A5.out (j := 0) rfl (by decide) (by decide) (Nat.zero_le _) (fun _ _ _ => easy_of (show I2.dO (ldB (c0 (fun i => (A7.cX rd u i).word) 2).f 0 4) = 15 from ST.out.2.2.1) (by decide) (by decide)) (by rw [ST.out.1]; exact ST.out.2.2.2.2.1) (by rw [ST.out.1]; exact ST.out.2.2.2.2.2.1)).mono ?_; rintro e w6 ⟨rfl, K5, M6, _⟩
  have A55 : Hid (AllM w w6 [⟨b, K5, m1⟩]) := by rw [← ST.out.1]; exact M6
  clear M6 A5
  go_wp2_with fail
  rw [rounds_succ]
  go_wp2_with fail
  refine (all_step (k := 0) (v := 0) 0 A55.out (j := 0) rfl (by decide) (by decide) (by rw [ST.out.2.2.2.2.2.2]; exact Nat.zero_le _) (fun _ _ _ => easy_of ST.out.2.2.2.1 (by decide) (by decide)) (by rw [ST.out.2.1]; rfl) (by rw [ST.out.2.1]; rfl)).mono ?_; rintro e w7 ⟨rfl, K6, M7, _⟩
  have A6 : Hid (AllM w w7 [⟨b, K6, cF (fun i => (A7.cX rd u i).word) 2 rd u⟩]) := by rw [← ST.out.2.1]; exact M7
  clear M7 A55 ST
  go_wp2_with fail
  rw [rounds_succ]
  have KF : Hid ((cF (fun i => (A7.cX rd u i).word) 2 rd u).nw = 2 ∧ (cF (fun i => (A7.cX rd u i).word) 2 rd u).pc = 8 ∧ (cF (fun i => (A7.cX rd u i).word) 2 rd u).cwp = 0 ∧ (cF (fun i => (A7.cX rd u i).word) 2 rd u).pil = 0 ∧ (cF (fun i => (A7.cX rd u i).word) 2 rd u).bank = 0 ∧ (cF (fun i => (A7.cX rd u i).word) 2 rd u).fl = 0) := ⟨rfl, rfl, rfl, rfl, rfl, rfl⟩
  generalize cF (fun i => (A7.cX rd u i).word) 2 rd u = mF at A6 KF CG
  go_wp2_with fail
  go_loopw [12] (fun i wr => ∃ r : Nat, r ≤ 32 ∧ i = .int .i64 r ∧ AllM w wr [⟨b, K6, mF⟩]) (fun i _ => 32 - (intOf i).toNat)
  case atStart => exact ⟨0, Nat.zero_le _, rfl, A6.out⟩
  case round =>
    obtain ⟨r, hr, rfl, hA⟩ := hrel
    have A7' := Lib.hid hA
    clear hA
    by_cases hlt : r < 32
    · have hc := CG.out r hlt
      go_wp2_with fail
      refine (one_file A7'.out).mono ?_; rintro e w8 ⟨fb8, rfl, rfl, F8⟩
      have HGET := F3.get_at fb8 mF.nw 0 0 r mF.R _ F8 (by rw [KF.out.1]; decide) (by rw [KF.out.1]; decide) (by rw [KF.out.1]; exact named_r hlt)
      rw [KF.out.1] at HGET
      clear F8
      by_cases h0 : r = 0
      · subst h0
        rw [hc, if_neg (fun h => Nat.lt_irrefl _ h.2)] at HGET
        have HGET := Lib.hid HGET
        clear hc
        by_cases hz : rd = 0
        · subst hz
          go_wp2_with fail
          refine HGET.out.mono ?_; rintro e w9 ⟨rfl, g9⟩
          have A9 := Lib.hid (A7'.out.more g9)
          clear g9 HGET A7'
          go_wp2_with fail
          exact ⟨⟨1, by decide, rfl, A9.out⟩, by simp [intOf]⟩
        · have hz' : ¬ (0 : Int) = rd := fun e => hz e.symm
          go_wp2_with fail
          refine HGET.out.mono ?_; rintro e w9 ⟨rfl, g9⟩
          have A9 := Lib.hid (A7'.out.more g9)
          clear g9 HGET A7'
          go_wp2_with fail
          exact ⟨⟨1, by decide, rfl, A9.out⟩, by simp [intOf]⟩
      · by_cases h1 : (r : Int) = rd
        · rw [hc, if_pos ⟨h1, Nat.pos_of_ne_zero h0⟩] at HGET
          have HGET := Lib.hid HGET
          clear hc
          subst h1
          have hp : (0 : Int) < (r : Int) := by omega
          clear h0
          go_wp2_with fail
          refine HGET.out.mono ?_; rintro e w9 ⟨rfl, g9⟩
          have A9 := Lib.hid (A7'.out.more g9)
          clear g9 HGET A7'
          go_wp2_with fail
          exact ⟨⟨r + 1, by omega, by push_cast; rfl, A9.out⟩, by simp [intOf]; omega⟩
        · rw [hc, if_neg (fun h => h1 h.1)] at HGET
          have HGET := Lib.hid HGET
          clear hc
          clear h0
          go_wp2_with fail
          refine HGET.out.mono ?_; rintro e w9 ⟨rfl, g9⟩
          have A9 := Lib.hid (A7'.out.more g9)
          clear g9 HGET A7'
          go_wp2_with fail
          exact ⟨⟨r + 1, by omega, by push_cast; rfl, A9.out⟩, by simp [intOf]; omega⟩
    · obtain rfl : r = 32 := by omega
      go_wp2_with fail
      refine (all_pc A7'.out (j := 0) rfl KF.out.2.1).mono ?_; rintro e w9 ⟨rfl, A9⟩
      have A9 := Lib.hid A9
      go_wp2_with fail
      refine (all_psr A9.out (j := 0) rfl KF.out.2.2.1 KF.out.2.2.2.1 KF.out.2.2.2.2.1 KF.out.2.2.2.2.2).mono ?_; rintro e w10 ⟨rfl, A10, g10⟩
      have A10 := Lib.hid A10
      clear g10 A9
      go_wp2_with fail
      refine (A7.head_at _ A10.out.tab.i).mono ?_; rintro e w11 ⟨rfl, g11⟩
      have B11 := Lib.hid (bel_trans A10.out.bel g11)
      clear g11 A10
      go_wp2_with fail
      go_ret
      exact ⟨rfl, B11.out⟩
theorem const_walk (rd u : Int) (w : World) (hT : Tabs w) (hr : 0 ≤ rd ∧ rd < 256) (hu : W32 u) :
    Calls Tryz.prog 10 #[.int .u8 rd, .int .u32 u] w fun e w' => e = .returned (.bool true) ∧ Below w.heap.size w w' := by
  by_cases h : 31 < rd
  · exact const_bad rd u w hT h (by omega) hu
  · have h1 := A7.cK_le u
    have h2 := A7.cK_pos u
    rcases (by omega : A7.cK u = 1 ∨ A7.cK u = 2) with hk | hk
    · exact const_1 rd u w hT hr.1 (by omega) hu hk
    · exact const_2 rd u w hT hr.1 (by omega) hu hk
end Go.Proofs.YtbkhhfffgmappaaGreatDoor.K6
namespace Go.Proofs.YtbkhhfffgmappaaGreatDoor.asmConst
open Go.Proofs.YtbkhhfffgmappaaGreatDoor.K6
open Go.ChangeShapes Go.WideShapes Go.ChangeAt Go.WideMaps Go.WideElems Go.RowKit
set_option linter.unusedVariables false
set_option maxRecDepth 100000 in
theorem lifted (os : Os) (started : os.Started) (H : Type) (enc : TypeId × Value → H) :
    ReturnsInHanded {} Tryz.checked os 10 .any (fun w args => (Rows.asmConstSpec.pre enc Tryz.prog Tryz.f10 [] false w args ∧ laidMetH Tryz.prog laidTab w) ∧ sizedMet enc Tryz.prog Tryz.f10 (OpenSpec.ofChange Rows.asmConstSpec) false w args)
      (Rows.asmConstSpec.post enc Tryz.prog Tryz.f10 false true false false) := by
  refine returnsInHanded_of_change_and (C := Tryz.checked) (X := fun w _ => laidMetH Tryz.prog laidTab w) (fun _ _ _ hh h => h.of_heap hh) own started (by kernel_rfl) Tryz.func10
    (ChangeSpec.witness_shaped (enc := enc) (C := Tryz.checked) (os := os) (X := fun w _ => laidMetH Tryz.prog laidTab w) false (World.doorLaid Tryz.prog 191 os) #[.int .u8 0, .int .u32 0] 8 rfl (World.shaped_of_RefB (by kernel_rfl) (by kernel_rfl)) (by kernel_rfl) (by kernel_rfl) (by kernel_rfl) (door_met os _)) ?_
  intro W base args ds gs before hval0 hW _ _ hL _
  have hval : ∀ (j : Nat) t v, Tryz.f10.params[j]? = some t → args[j]? = some v → Value.okWide Tryz.prog W .any base t v := hval0
  have hW' := hW
  obtain ⟨p, q, hA0, hV, rfl, hfz, hnd⟩ := hW
  have hA : DataW.TrodAll enc Tryz.prog W 0 (fun _ => true) true Tryz.f10.params.toList args.toList ds p := hA0
  rw [Tryz.params10] at hA hval
  obtain ⟨v0, vs0, d0, ds0, p0, q0, hargs, rfl, rfl, h0, r0⟩ := trodAll_cons hA
  obtain ⟨v1, vs1, d1, ds1, p1, q1, rfl, rfl, rfl, h1, r1⟩ := trodAll_cons r0
  obtain ⟨rfl, rfl, rfl⟩ := trodAll_nil r1
  obtain rfl : args = #[v0, v1] := by cases args; simp_all
  obtain ⟨rfl, rfl⟩ := trodVars_none hV
  obtain ⟨a0, rfl, rfl, rfl, w0⟩ := open_int Tryz.underlying5 (hval 0 5 v0 rfl rfl) h0
  obtain ⟨a1, rfl, rfl, rfl, w1⟩ := open_int Tryz.underlying22 (hval 1 22 v1 rfl rfl) h1
  clear hA0 hval0
  have hT := of_laid hL
  refine (const_walk a0 a1 W hT (u8_b w0) (u32_b w1)).mono fun e W' ⟨he, hg⟩ => ?_
  subst he
  exact ⟨_, rfl, post_kept hg (pa := [] ++ ([] ++ [])) (pv := []) hW' (fun _ _ _ => (trodAll_cons_mk (shut_bool Tryz.underlying4 _) trodAll_mk0)) (fun sp hsp => (trodAll_cons_mk (shut_int Tryz.underlying5 w0) (trodAll_cons_mk (shut_int Tryz.underlying22 w1) trodAll_mk0))) (fun _ _ => rfl) rfl
    (ok_one (by kernel_rfl) rfl (okWide_bool_mk Tryz.underlying4 _))⟩

theorem row_holds : Rows.AsmConstSaid :=
  OpenClaim.holds_of_wide 10 Tryz.f10 rfl rfl rfl rfl rfl rfl rfl ⟨rfl, rfl, rfl, rfl, rfl⟩ rfl rfl rfl rfl rfl (by kernel_rfl) Tryz.func10 (by kernel_rfl)
    (of_decide_eq_true (by kernel_rfl)) (by unfold Func.isWrapper; first | (rw [if_pos (by decide +kernel)]; kernel_rfl) | (rw [if_neg (by decide +kernel)]; exact ⟨rfl, rfl⟩))
    (fun os started H enc _ => lifted os started H enc)

/-- THE STATEMENT: the tied card. -/
theorem proved : Rows.AsmConstCardSaid :=
  Claim7.holds_tied_plain_at .later [] [.data, .data] true _ false
    row_holds (fun _ h => by cases h) (by kernel_rfl) (fun _ h => by cases h) asmConst_row_tie rfl ⟨rfl, rfl⟩ (by kernel_rfl) rfl
    (fun f fn hf hfn => by
      obtain rfl : f = 10 := Option.some.inj ((show Tryz.prog.funcNamed "muntin/muntinlaw07.AsmConst" = some 10 by kernel_rfl).symm.trans hf) |>.symm
      obtain rfl : fn = Tryz.f10 := (Option.some.inj (Tryz.func10.symm.trans hfn)).symm
      exact ⟨by kernel_rfl, fun j t ht => by
        rw [Tryz.params10] at ht
        have hm : t ∈ [5, 22] := by simpa using Array.mem_of_getElem? ht
        have hall : ([5, 22].all fun u => !Tryz.prog.wantsStandIn u) = true := by kernel_rfl
        exact (show Tryz.prog.wantsStandIn t = false by simpa using List.all_eq_true.1 hall t hm)⟩)
    (by kernel_rfl)
#print axioms proved
end Go.Proofs.YtbkhhfffgmappaaGreatDoor.asmConst
