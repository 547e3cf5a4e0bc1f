/- Conditions by flags, as comparisons (layer 1). The handlers of yield and end as wholes (layer 10). The handlers of yield and end as wholes (layer 10): behind the windows. -/
import Derived.Test.YtiobgnelhiadbaaGreatDoorVBaseG
import Derived.Test.YtiobgnelhiadbaaGreatDoorVSwapGM
namespace Go.Proofs.YtiobgnelhiadbaaGreatDoor.W1
open Go.RowKit
set_option linter.unusedVariables false
theorem fbits (p q r s : Bool) : fbit (8 * tr p + 4 * tr q + 2 * tr r + tr s) 8 = p ∧ fbit (8 * tr p + 4 * tr q + 2 * tr r + tr s) 4 = q ∧ fbit (8 * tr p + 4 * tr q + 2 * tr r + tr s) 2 = r ∧ fbit (8 * tr p + 4 * tr q + 2 * tr r + tr s) 1 = s := by
  cases p <;> cases q <;> cases r <;> cases s <;> decide
theorem less_is (a b : Int) (ha : 0 ≤ a ∧ a < 4294967296) (hb : 0 ≤ b ∧ b < 4294967296) :
    (decide (wrap32 ((a - b) % 4294967296) < 0) != (wrap32 a - wrap32 b != wrap32 ((a - b) % 4294967296))) = decide (wrap32 a < wrap32 b) := by
  have e : ∀ x y z : Int, (-2147483648 ≤ x ∧ x ≤ 2147483647) → (-2147483648 ≤ y ∧ y ≤ 2147483647) → (-2147483648 ≤ z ∧ z ≤ 2147483647) → (x - y = z ∨ x - y = z + 4294967296 ∨ x - y = z - 4294967296) → (decide (z < 0) != (x - y != z)) = decide (x < y) := by
    intro x y z hx hy hz h
    rcases h with h | h | h
    · by_cases h1 : z < 0
      · have : x < y := by omega
        simp [h, h1, this]
      · have : ¬ x < y := by omega
        simp [h, h1, this]
    · have n1 : ¬ x - y = z := by omega
      have n2 : z < 0 := by omega
      have n3 : ¬ x < y := by omega
      simp [n1, n2, n3]
    · have n1 : ¬ x - y = z := by omega
      have n2 : ¬ z < 0 := by omega
      have n3 : x < y := by omega
      simp [n1, n2, n3]
  refine e _ _ _ (wrap32_bd a) (wrap32_bd b) (wrap32_bd _) ?_
  unfold wrap32
  omega
theorem same_is (a b : Int) (ha : 0 ≤ a ∧ a < 4294967296) (hb : 0 ≤ b ∧ b < 4294967296) : ((a - b) % 4294967296 == 0) = (a == b) := by
  rw [Bool.eq_iff_iff]; simp; omega
theorem conds_are (a b : Int) (ha : 0 ≤ a ∧ a < 4294967296) (hb : 0 ≤ b ∧ b < 4294967296) :
    hv 3 (fl a b) = decide (wrap32 a < wrap32 b) ∧ hv 4 (fl a b) = !decide (wrap32 a < wrap32 b) ∧ hv 5 (fl a b) = decide (a < b) ∧ hv 6 (fl a b) = !decide (a < b) ∧ hv 1 (fl a b) = (a == b) ∧ hv 2 (fl a b) = !(a == b) ∧ hv 0 (fl a b) = true := by
  have h := fbits (decide (wrap32 ((a - b) % 4294967296) < 0)) ((a - b) % 4294967296 == 0) (wrap32 a - wrap32 b != wrap32 ((a - b) % 4294967296)) (decide (a < b))
  obtain ⟨h8, h4, h2, h1⟩ := h
  have k8 : fbit (fl a b) 8 = decide (wrap32 ((a - b) % 4294967296) < 0) := h8
  have k4 : fbit (fl a b) 4 = ((a - b) % 4294967296 == 0) := h4
  have k2 : fbit (fl a b) 2 = (wrap32 a - wrap32 b != wrap32 ((a - b) % 4294967296)) := h2
  have k1 : fbit (fl a b) 1 = decide (a < b) := h1
  have l3 : hv 3 (fl a b) = (fbit (fl a b) 8 != fbit (fl a b) 2) := rfl
  have l4 : hv 4 (fl a b) = (fbit (fl a b) 8 == fbit (fl a b) 2) := rfl
  have l5 : hv 5 (fl a b) = fbit (fl a b) 1 := rfl
  have l6 : hv 6 (fl a b) = !fbit (fl a b) 1 := rfl
  have l1 : hv 1 (fl a b) = fbit (fl a b) 4 := rfl
  have l2 : hv 2 (fl a b) = !fbit (fl a b) 4 := rfl
  have hl := less_is a b ha hb
  refine ⟨?_, ?_, ?_, ?_, ?_, ?_, rfl⟩
  · rw [l3, k8, k2, hl]
  · rw [l4, k8, k2, ← hl]
    cases decide (wrap32 ((a - b) % 4294967296) < 0) <;> cases (wrap32 a - wrap32 b != wrap32 ((a - b) % 4294967296)) <;> rfl
  · rw [l5, k1]
  · rw [l6, k1]
  · rw [l1, k4, same_is a b ha hb]
  · rw [l2, k4, same_is a b ha hb]
end Go.Proofs.YtiobgnelhiadbaaGreatDoor.W1
namespace Go.Proofs.YtiobgnelhiadbaaGreatDoor.S10
open Go.RowKit
open A7 (XI XB)
open W8 (sFr gX gX_mem sBr)
open K6
set_option linter.unusedVariables false
section
variable {m0 m : MS} {c v fl tp y : Int} {f R g : Nat → Int} {cl : Nat} {i : Nat} {t : Int}
/-- Into a handler. -/
theorem trap_zd (H : Z0 m0) (k : Int) (hk : 0 ≤ k ∧ k < 256) (p : Int) : Zd m0 m0.cwp m0.wim (256 + 16 * k) m0.fl p m0.f m0.R (fun r => m0.R (640 + r)) m0.cl (m0.wnd k p) := by
  unfold MS.wnd
  rw [if_pos H.bank]
  exact ⟨rfl, rfl, H.sk, rfl, fun _ => rfl, rfl, rfl, rfl, rfl, rfl, rfl, rfl, rfl, fun _ _ => rfl, fun _ _ _ => rfl, (F3.upd_same m0.tpc 16 p :), (F3.upd_same m0.tps 16 m0.pw :)⟩
theorem Zd.br (h : Zd m0 c v y fl tp f R g cl m) (H : Z0 m0) {k : Int} (hk : 0 ≤ k ∧ k ≤ 200) (hp : 0 ≤ y ∧ y < 2048 ∧ y % 4 = 0) (hw : ldB f y.toNat 4 = (sBr k).word) : Zd m0 c v (y + 4 * k) fl tp f R g cl (mstep m 0) := by
  have E : mstep m 0 = mExec m (sBr k).o (sBr k).d (sBr k).n (m.get (sBr k).s) (if (sBr k).b then (sBr k).n % 4294967296 else m.get (sBr k).t) :=
    (step_word (W8.sBr_b hk) (W8.sBr_may hk) h.sk (by rw [h.pil]; exact H.p0) (by rw [h.sz, H.sz, h.pc]; exact th_w hp.1 hp.2.2 (by omega)) (by rw [h.pc, h.f, hw])).1
  rw [E]
  show Zd m0 c v _ fl tp f R g cl (if W1.hv 0 m.fl then m.jmp ((m.pc + 4 * (k % 4294967296) % 4294967296) % 4294967296) else m.on)
  rw [if_pos (by unfold W1.hv; rw [if_pos rfl])]
  refine { h with pc := ?_ }
  show (m.pc + 4 * (k % 4294967296) % 4294967296) % 4294967296 = _
  rw [h.pc]; omega
/-- A TRAP 3, or 4: two steps. -/
theorem into (H : Z0 m0) (hM : ZMem m0.nw m0.f) (hpc : m0.pc = 1536) {k : Int} (hk : k = 3 ∨ k = 4) (hw : ldB m0.f 1536 4 = (tI k).word) :
    Zd m0 m0.cwp m0.wim (768 + 4 * (((if k = 3 then 4 else 0) : Nat) : Int)) m0.fl 1540 m0.f m0.R (fun r => m0.R (640 + r)) m0.cl (mstep (mstep m0 0) 0) ∧ K6.Reach t m0 2 (mstep (mstep m0 0) 0) := by
  have E0 : mstep m0 0 = m0.wnd k 1540 := by
    rw [(step_word (tI_all hk).1 (tI_all hk).2 H.sk H.p0 (by rw [H.sz, hpc]; exact th_w (by omega) (by omega) (by omega)) (by rw [hpc]; exact hw)).1]
    show m0.wnd (k % 256) ((m0.pc + 4) % 4294967296) = _
    rw [hpc, show k % 256 = k by omega]; rfl
  have s0 := trap_zd H k (by omega) 1540
  rw [← E0] at s0
  rcases hk with rfl | rfl
  · have s1 := s0.br H (k := 120) (by decide) (by decide) hM.y
    exact ⟨s1, (Zd.reach s0).trans (Zd.reach s1)⟩
  · have s1 := s0.br H (k := 112) (by decide) (by decide) hM.e
    exact ⟨s1, (Zd.reach s0).trans (Zd.reach s1)⟩
theorem cond_eq (a b : Int) (ha : W32 a) (hb : W32 b) : W1.hv 1 (W1.fl a b) = (a == b) := (W1.conds_are a b ha hb).2.2.2.2.1
theorem cond_lt (a b : Int) (ha : W32 a) (hb : W32 b) : W1.hv 3 (W1.fl a b) = decide (wrap32 a < wrap32 b) := (W1.conds_are a b ha hb).1
theorem cond_ltu (a b : Int) (ha : W32 a) (hb : W32 b) : W1.hv 5 (W1.fl a b) = decide (a < b) := (W1.conds_are a b ha hb).2.2.1
/-- A power of two, shifted right: it is 1 at its own place alone. -/
theorem pw_one (a b : Nat) : (P4.pw a / ((2 : Int) ^ b) == 1) = (a == b) := by
  rw [Bool.eq_iff_iff]
  simp only [beq_iff_eq]
  unfold P4.pw
  have e : ((2 ^ a : Nat) : Int) / (2 : Int) ^ b = ((2 ^ a / 2 ^ b : Nat) : Int) := by
    rw [Int.natCast_ediv]; congr 1
  rw [e]
  constructor
  · intro h
    have h : 2 ^ a / 2 ^ b = 1 := by exact_mod_cast h
    rcases Nat.lt_or_ge a b with hl | hl
    · rw [Nat.div_eq_of_lt (Nat.pow_lt_pow_right (by decide) hl)] at h; cases h
    · rw [Nat.pow_div hl (by decide)] at h
      have : a - b = 0 := by
        rcases Nat.eq_zero_or_pos (a - b) with h0 | h0
        · exact h0
        · have := Nat.one_lt_two_pow (n := a - b) (by omega); omega
      omega
  · rintro rfl
    rw [Nat.div_self (Nat.two_pow_pos a)]; rfl
/-- What windows, stored one after the other, make of the memory; the first is x. -/
def stS (R : Nat → Int) (n x : Int) : (Nat → Int) → Nat → Nat → Int
  | f, 0 => f
  | f, j + 1 => ptB (stS R n x f j) (R (F3.loc n ((x + j) % n) 16 14)).toNat (fun k => R ((16 * ((x + j) % n)).toNat + k)) 16
theorem ZMem.sts {nw : Int} (h : ZMem nw f) (x : Int) : ∀ k, (∀ j : Nat, j < k → 1144 ≤ R (F3.loc nw ((x + j) % nw) 16 14)) → ZMem nw (stS R nw x f k)
  | 0, _ => h
  | k + 1, hs => (ZMem.sts h x k fun j hj => hs j (by omega)).pt (by have := hs k (by omega); omega) _ _
/-- The words of split. -/
theorem pword_cut (c p f : Int) (c0 : 0 ≤ c) (c1 : c < 32) (p0 : 0 ≤ p) (p1 : p ≤ 15) (f0 : 0 ≤ f) (f1 : f ≤ 15) (b : Int) (b0 : 0 ≤ b) (b1 : b ≤ 16) : W32 (P4.pword c p b f) ∧ P4.pword c p b f % 32 = c ∧ (P4.pword c p b f - c) % 4294967296 = P4.pword 0 p b f := by
  unfold W32 P4.pword
  refine ⟨⟨by omega, by omega⟩, by omega, by omega⟩
/-- The windows are stored, one after the other: at the store's place. -/
theorem loop_st (H : Z0 m0) (hM : ZMem m0.nw f) (h0 : R 640 = 0) {iv : Nat} (hiv : (iv : Int) < m0.nw) {x : Int} (hx : 0 ≤ x ∧ x < m0.nw) (h : Zd m0 c (P4.pw iv) (768 + 4 * ((7 : Nat) : Int)) fl tp f R g cl m) (hc : 0 ≤ c ∧ c < m0.nw) (g2 : g 2 = P4.pword 0 m0.pil 16 m0.fl) (g3 : g 3 = x) :
    ∀ k : Nat, (∀ j : Nat, j < k → (x + j) % m0.nw ≠ iv ∧ 1144 ≤ R (F3.loc m0.nw ((x + j) % m0.nw) 16 14) ∧ R (F3.loc m0.nw ((x + j) % m0.nw) 16 14) % 4 = 0 ∧ R (F3.loc m0.nw ((x + j) % m0.nw) 16 14) + 64 ≤ 8192) →
      ∃ m' c' fl' g', Zd m0 c' (P4.pw iv) (768 + 4 * ((7 : Nat) : Int)) fl' tp (stS R m0.nw x f k) R g' cl m' ∧ (0 ≤ c' ∧ c' < m0.nw) ∧ g' 2 = P4.pword 0 m0.pil 16 m0.fl ∧ g' 3 = (x + k) % m0.nw ∧ K6.Reach t m (24 * k) m'
  | 0, _ => ⟨m, c, fl, g, h, hc, g2, by rw [g3, show x + ((0 : Nat) : Int) = x by omega]; exact (Int.emod_eq_of_lt hx.1 hx.2).symm, K6.Reach.zero t m⟩
  | k + 1, hs => by
    obtain ⟨m1, c1, fl1, g1, s1, hc1, e2, e3, r1⟩ := loop_st H hM h0 hiv hx h hc g2 g3 k fun j hj => hs j (by omega)
    obtain ⟨hne, hlo, h4, hhi⟩ := hs k (by omega)
    have n2 := H.n2
    have n32 := H.n32
    have z0 : 0 ≤ (x + k) % m0.nw := Int.emod_nonneg _ (by omega)
    have z1 : (x + k) % m0.nw < m0.nw := Int.emod_lt_of_pos _ (by omega)
    have hM1 : ZMem m0.nw (stS R m0.nw x f k) := hM.sts x k fun j hj => (hs j (by omega)).2.1
    obtain ⟨xn, hxn⟩ : ∃ xn : Nat, (x + k) % m0.nw = xn := ⟨((x + k) % m0.nw).toNat, by omega⟩
    have hp := P4.pw_in (x := iv) (by omega)
    -- is it the invalid one?
    have s2 := s1.rw H hM1 (by decide) rfl
    have s3 := s2.alu H hM1 h0 (by decide) (d := 1) rfl (P4.pw iv / 2 ^ xn) (by decide) (by decide) (by decide) (by decide) rfl (by
      show P4.pw iv / 2 ^ (g1 3 % 32).toNat = _
      rw [e3, hxn, show ((xn : Int) % 32).toNat = xn by omega])
    have s4 := s3.cm H hM1 h0 (by decide) rfl (by decide) (by decide)
    have hq : W32 (P4.pw iv / 2 ^ xn) := by
      have h1 : 0 ≤ P4.pw iv / 2 ^ xn := Int.ediv_nonneg (by omega) (Int.pow_nonneg (by decide))
      have h2 : P4.pw iv / 2 ^ xn ≤ P4.pw iv := Int.ediv_le_self _ (by omega)
      exact ⟨h1, by omega⟩
    have s5 := s4.bn H hM1 (by decide) (d := 1) (n := 21) rfl (by
      show W1.hv 1 (W1.fl (P4.pw iv / 2 ^ xn) 1) = false
      rw [cond_eq _ _ hq ⟨by decide, by decide⟩, pw_one]
      have : iv ≠ xn := by omega
      simpa using this)
    have s6 := s5.en H hM1 h0 (by decide) rfl (fl' := m0.fl) (c' := (x + k) % m0.nw) e2 e3 ⟨z0, z1⟩ ⟨H.f0, H.f1⟩
    obtain ⟨sn, hsn⟩ : ∃ sn : Nat, R (F3.loc m0.nw ((x + k) % m0.nw) 16 14) = sn := ⟨(R (F3.loc m0.nw ((x + k) % m0.nw) 16 14)).toNat, by omega⟩
    obtain ⟨m7, s7, r7⟩ := Zd.sts (t := t) s6 H hM1 ⟨z0, z1⟩ hsn (by omega) (by omega) (by omega) 16 (by decide)
    have eS : ptB (stS R m0.nw x f k) sn (fun k_1 => R ((16 * ((x + k) % m0.nw)).toNat + k_1)) 16 = stS R m0.nw x f (k + 1) := by
      show _ = ptB _ (R (F3.loc m0.nw ((x + k) % m0.nw) 16 14)).toNat _ 16
      rw [hsn]; rfl
    rw [eS] at s7
    have hM7 : ZMem m0.nw (stS R m0.nw x f (k + 1)) := hM.sts x (k + 1) fun j hj => (hs j hj).2.1
    have s8 := s7.alu H hM7 h0 (i := 28) (by decide) (d := 3) rfl ((x + k) % m0.nw + 1) (by decide) (by decide) (by decide) (by decide) rfl (by
      show (g1 3 + 1 % 4294967296) % 4294967296 = _
      rw [e3]; omega)
    have s9 := s8.alu H hM7 h0 (by decide) (d := 3) (n := m0.nw) (b := true) rfl ((x + (k + 1 : Nat)) % m0.nw) (by decide) (by decide) (by decide) (by decide) (by
      show W1.dok (5 - 1) (m0.nw % 4294967296) = true
      have en : m0.nw % 4294967296 = m0.nw := by omega
      have : (m0.nw == 0) = false := by simpa using (by omega : m0.nw ≠ 0)
      rw [en]; unfold W1.dok; rw [this]; rfl) (by
      show W1.dv 4 ((x + k) % m0.nw + 1) (m0.nw % 4294967296) = _
      have en : m0.nw % 4294967296 = m0.nw := by omega
      rw [en, W1.dv_4 _ _ (by omega)]
      have w1 : wrap32 ((x + k) % m0.nw + 1) = (x + k) % m0.nw + 1 := by unfold wrap32; omega
      have w2 : wrap32 m0.nw = m0.nw := by unfold wrap32; omega
      rw [w1, w2, Int.tmod_eq_emod_of_nonneg (by omega)]
      have ee : ((x + k) % m0.nw + 1) % m0.nw = (x + (k + 1 : Nat)) % m0.nw := by rw [Int.emod_add_emod]; congr 1; omega
      rw [ee]
      have q1 := Int.emod_nonneg (x + (k + 1 : Nat)) (b := m0.nw) (by omega)
      have q2 := Int.emod_lt_of_pos (x + (k + 1 : Nat)) (b := m0.nw) (by omega)
      omega)
    have s10 := s9.bt H hM7 (by decide) (d := 0) (n := -23) rfl (by unfold W1.hv; rw [if_pos rfl]) 7 (by decide) (by decide) (by decide)
    refine ⟨_, _, _, _, s10, ⟨z0, z1⟩, e2, rfl, ?_⟩
    have R2 := r1.trans (Zd.reach (t := t) s2)
    have R3 := R2.trans (Zd.reach (t := t) s3)
    have R4 := R3.trans (Zd.reach (t := t) s4)
    have R5 := R4.trans (Zd.reach (t := t) s5)
    have R6 := R5.trans (Zd.reach (t := t) s6)
    have R7 := R6.trans r7
    have R8 := R7.trans (Zd.reach (t := t) s8)
    have R9 := R8.trans (Zd.reach (t := t) s9)
    have R10 := R9.trans (Zd.reach (t := t) s10)
    rw [show 24 * (k + 1) = 1 + (1 + (1 + (16 + (1 + (1 + (1 + (1 + (1 + 24 * k)))))))) by omega]
    exact R10
end
end Go.Proofs.YtiobgnelhiadbaaGreatDoor.S10
namespace Go.Proofs.YtiobgnelhiadbaaGreatDoor.S10
open Go.RowKit
open A7 (XI XB)
open W8 (sFr gX gX_mem sBr)
open K6
set_option linter.unusedVariables false
section
variable {m0 m : MS} {c v fl tp y : Int} {f R g : Nat → Int} {cl : Nat} {i : Nat} {t : Int}
/-- The windows are stored: what the thread stores of itself. -/
theorem yield_mid (H : Z0 m0) (hM : ZMem m0.nw f) (h0 : R 640 = 0) {iv : Nat} (hiv : (iv : Int) < m0.nw) (h : Zd m0 c (P4.pw iv) (768 + 4 * ((7 : Nat) : Int)) fl tp f R g cl m) (g2 : g 2 = P4.pword 0 m0.pil 16 m0.fl) (g3 : g 3 = iv) {r : Nat} (hr : r < 4) (hcur : ldB f 128 4 = r) :
    ∃ m' g', Zd m0 m0.cwp (P4.pw iv) (768 + 4 * ((39 : Nat) : Int)) m0.fl tp (stB (stB f (64 + 16 * r) 4 tp) (68 + 16 * r) 4 (R (F3.loc m0.nw m0.cwp 16 14))) R g' cl m' ∧ K6.Reach t m 12 m' := by
  have n2 := H.n2
  have n32 := H.n32
  have c0 := H.c0
  have c1 := H.c1
  have hp := P4.pw_in (x := iv) (by omega)
  have s2 := h.rw H hM (by decide) rfl
  have s3 := s2.alu H hM h0 (by decide) (d := 1) rfl (P4.pw iv / 2 ^ iv) (by decide) (by decide) (by decide) (by decide) rfl (by
    show P4.pw iv / 2 ^ (g 3 % 32).toNat = _
    rw [g3, show ((iv : Int) % 32).toNat = iv by omega])
  have s4 := s3.cm H hM h0 (by decide) rfl (by decide) (by decide)
  have hq : W32 (P4.pw iv / 2 ^ iv) := by
    have h1 : 0 ≤ P4.pw iv / 2 ^ iv := Int.ediv_nonneg (by omega) (Int.pow_nonneg (by decide))
    have h2 : P4.pw iv / 2 ^ iv ≤ P4.pw iv := Int.ediv_le_self _ (by omega)
    exact ⟨h1, by omega⟩
  have s5 := s4.bt H hM (by decide) (d := 1) (n := 21) rfl (by
    show W1.hv 1 (W1.fl (P4.pw iv / 2 ^ iv) 1) = true
    rw [cond_eq _ _ hq ⟨by decide, by decide⟩, pw_one]
    simp) 31 (by decide) (by decide) (by decide)
  have s6 := s5.ts H hM (by decide) rfl
  have ew : m0.pw = P4.pword m0.cwp m0.pil 0 m0.fl := by unfold MS.pw; rw [H.bank]
  obtain ⟨w1, w2, _⟩ := pword_cut m0.cwp m0.pil m0.fl c0 (by omega) H.p0 H.p1 H.f0 H.f1 0 (by decide) (by decide)
  have s7 := s6.alu H hM h0 (by decide) (d := 3) rfl m0.cwp (by decide) (by decide) (by decide) (by decide) rfl (by
    show bits .and .u32 m0.pw 31 = _
    rw [ew, I2.and_5 _ w1, w2])
  have s8 := s7.en H hM h0 (by decide) rfl (fl' := m0.fl) (c' := m0.cwp) g2 rfl ⟨c0, c1⟩ ⟨H.f0, H.f1⟩
  have s9 := s8.ld H hM h0 (by decide) (d := 4) rfl 128 r (by decide) (by decide) (by show ((0 : Int) + 128 % 4294967296) % 4294967296 = _; decide) (by decide) (by decide) hcur
  have s10 := s9.alu H hM h0 (by decide) (d := 4) rfl (16 * (r : Int)) (by decide) (by decide) (by decide) (by decide) rfl (by
    show (r : Int) * (16 % 4294967296) % 4294967296 = _
    omega)
  have s11 := s10.rtp H hM (by decide) rfl
  have s12 := s11.st H hM h0 (by decide) (d := 1) rfl (64 + 16 * r) (by decide) (by
    show (16 * (r : Int) + 64 % 4294967296) % 4294967296 = _
    omega) (by omega) (by omega) tp (s11.get h0 (by decide))
  have hM2 := hM.st (a := 64 + 16 * r) (.inr (by omega)) tp
  have s13 := s12.st H hM2 h0 (by decide) (d := 14) rfl (68 + 16 * r) (by decide) (by
    show (16 * (r : Int) + 68 % 4294967296) % 4294967296 = _
    omega) (by omega) (by omega) _ (s12.sp H ⟨c0, c1⟩)
  refine ⟨_, _, s13, ?_⟩
  have R3 := (Zd.reach (t := t) s2).trans (Zd.reach (t := t) s3)
  have R4 := R3.trans (Zd.reach (t := t) s4)
  have R5 := R4.trans (Zd.reach (t := t) s5)
  have R6 := R5.trans (Zd.reach (t := t) s6)
  have R7 := R6.trans (Zd.reach (t := t) s7)
  have R8 := R7.trans (Zd.reach (t := t) s8)
  have R9 := R8.trans (Zd.reach (t := t) s9)
  have R10 := R9.trans (Zd.reach (t := t) s10)
  have R11 := R10.trans (Zd.reach (t := t) s11)
  have R12 := R11.trans (Zd.reach (t := t) s12)
  exact R12.trans (Zd.reach (t := t) s13)
/-- The thread that ends is not alive any more. -/
theorem end_mid (H : Z0 m0) (hM : ZMem m0.nw f) (h0 : R 640 = 0) (h : Zd m0 c v (768 + 4 * ((0 : Nat) : Int)) fl tp f R g cl m) {r : Nat} (hr : r < 4) (hcur : ldB f 128 4 = r) :
    ∃ m' g', Zd m0 c v (768 + 4 * ((39 : Nat) : Int)) fl tp (stB f (76 + 16 * r) 4 0) R g' cl m' ∧ K6.Reach t m 4 m' := by
  have s1 := h.ld H hM h0 (by decide) (d := 4) rfl 128 r (by decide) (by decide) (by show ((0 : Int) + 128 % 4294967296) % 4294967296 = _; decide) (by decide) (by decide) hcur
  have s2 := s1.alu H hM h0 (by decide) (d := 4) rfl (16 * (r : Int)) (by decide) (by decide) (by decide) (by decide) rfl (by
    show (r : Int) * (16 % 4294967296) % 4294967296 = _
    omega)
  have s3 := s2.st H hM h0 (by decide) (d := 0) rfl (76 + 16 * r) (by decide) (by
    show (16 * (r : Int) + 76 % 4294967296) % 4294967296 = _
    omega) (by omega) (by omega) 0 (s2.get h0 (by decide))
  have s4 := s3.bt H (hM.st (.inr (by omega)) 0) (by decide) (d := 0) (n := 36) rfl (by unfold W1.hv; rw [if_pos rfl]) 39 (by decide) (by decide) (by decide)
  exact ⟨_, _, s4, (((Zd.reach (t := t) s1).trans (Zd.reach (t := t) s2)).trans (Zd.reach (t := t) s3)).trans (Zd.reach (t := t) s4)⟩
/-- How many of the first threads are alive. -/
def cntA (al : Nat → Int) : Nat → Int
  | 0 => 0
  | k + 1 => cntA al k + al k
theorem cntA_b {al : Nat → Int} : ∀ k, (∀ j, j < k → al j = 0 ∨ al j = 1) → 0 ≤ cntA al k ∧ cntA al k ≤ k
  | 0, _ => ⟨Int.le_refl _, Int.le_refl _⟩
  | k + 1, h => by
    have h1 := cntA_b k fun j hj => h j (by omega)
    have h2 := h k (by omega)
    show 0 ≤ cntA al k + al k ∧ cntA al k + al k ≤ _
    push_cast
    omega
theorem cntA_up {al : Nat → Int} {n : Nat} (h : ∀ j, j < n → al j = 0 ∨ al j = 1) : ∀ d k, k + d ≤ n → cntA al k ≤ cntA al (k + d)
  | 0, _, _ => Int.le_refl _
  | d + 1, k, hk => by
    have h1 := cntA_up h d k (by omega)
    have h2 := h (k + d) (by omega)
    show _ ≤ cntA al (k + d) + al (k + d)
    omega
/-- The threads that are alive are counted: at the counting's place. -/
theorem loop_ct (H : Z0 m0) (hM : ZMem m0.nw f) (h0 : R 640 = 0) (h : Zd m0 c v (768 + 4 * ((43 : Nat) : Int)) fl tp f R g cl m) {n : Nat} (hn : 1 ≤ n ∧ n ≤ 4) (g4 : g 4 = 0) (g5 : g 5 = 16 * (n : Int)) (g6 : g 6 = 0) {al : Nat → Int} (hal : ∀ j, j < n → ldB f (76 + 16 * j) 4 = al j ∧ (al j = 0 ∨ al j = 1)) :
    ∀ k : Nat, k < n → ∃ m' fl' g', Zd m0 c v (768 + 4 * ((43 : Nat) : Int)) fl' tp f R g' cl m' ∧ g' 4 = 16 * (k : Int) ∧ g' 5 = 16 * (n : Int) ∧ g' 6 = cntA al k ∧ K6.Reach t m (5 * k) m'
  | 0, _ => ⟨m, fl, g, h, g4, g5, g6, K6.Reach.zero t m⟩
  | k + 1, hk => by
    obtain ⟨m1, fl1, g1, s1, e4, e5, e6, r1⟩ := loop_ct H hM h0 h hn g4 g5 g6 hal k (by omega)
    have hb := cntA_b (al := al) k fun j hj => (hal j (by omega)).2
    obtain ⟨hl, hv⟩ := hal k (by omega)
    have s2 := s1.ld H hM h0 (by decide) (d := 1) rfl (76 + 16 * k) (al k) (by decide) (by decide) (by
      show (g1 4 + 76 % 4294967296) % 4294967296 = _
      rw [e4]; push_cast; omega) (by omega) (by omega) hl
    have s3 := s2.alu H hM h0 (by decide) (d := 6) rfl (cntA al (k + 1)) (by decide) (by decide) (by decide) (by decide) rfl (by
      show (g1 6 + al k) % 4294967296 = cntA al k + al k
      rw [e6]; omega)
    have s4 := s3.alu H hM h0 (by decide) (d := 4) rfl (16 * ((k + 1 : Nat) : Int)) (by decide) (by decide) (by decide) (by decide) rfl (by
      show (g1 4 + 16 % 4294967296) % 4294967296 = _
      rw [e4]; push_cast; omega)
    have s5 := s4.cm H hM h0 (by decide) rfl (by decide) (by decide)
    have s6 := s5.bt H hM (by decide) (d := 5) (n := -4) rfl (by
      show W1.hv 5 (W1.fl (16 * ((k + 1 : Nat) : Int)) (g1 5)) = true
      rw [e5, cond_ltu _ _ ⟨by omega, by omega⟩ ⟨by omega, by omega⟩]
      exact decide_eq_true (by omega)) 43 (by decide) (by decide) (by decide)
    refine ⟨_, _, _, s6, rfl, e5, rfl, ?_⟩
    have R3 := (r1.trans (Zd.reach (t := t) s2)).trans (Zd.reach (t := t) s3)
    have R6 := ((R3.trans (Zd.reach (t := t) s4)).trans (Zd.reach (t := t) s5)).trans (Zd.reach (t := t) s6)
    rw [show 5 * (k + 1) = 1 + (1 + (1 + (1 + (1 + 5 * k)))) by omega]
    exact R6
/-- .. and the choice is taken. -/
theorem choose (H : Z0 m0) (hM : ZMem m0.nw f) (h0 : R 640 = 0) (h : Zd m0 c v (768 + 4 * ((39 : Nat) : Int)) fl tp f R g m0.cl m) (hcl : 0 < m0.cl) (hu : W32 (m0.ch 0)) {n : Nat} (hn : 1 ≤ n ∧ n ≤ 4) (hth : ldB f 132 4 = n) {al : Nat → Int} (hal : ∀ j, j < n → ldB f (76 + 16 * j) 4 = al j ∧ (al j = 0 ∨ al j = 1)) (hpos : 0 < cntA al n) :
    ∃ m' fl' g', Zd m0 c v (768 + 4 * ((56 : Nat) : Int)) fl' tp f R g' (m0.cl - 1) m' ∧ g' 4 = 0 ∧ g' 7 = m0.ch 0 % cntA al n ∧ K6.Reach t m (5 * n + 12) m' := by
  have s1 := h.ld H hM h0 (by decide) (d := 5) rfl 132 n (by decide) (by decide) (by show ((0 : Int) + 132 % 4294967296) % 4294967296 = _; decide) (by decide) (by decide) hth
  have s2 := s1.alu H hM h0 (by decide) (d := 5) rfl (16 * (n : Int)) (by decide) (by decide) (by decide) (by decide) rfl (by
    show (n : Int) * (16 % 4294967296) % 4294967296 = _
    omega)
  have s3 := s2.alu H hM h0 (by decide) (d := 6) rfl 0 (by decide) (by decide) (by decide) (by decide) rfl rfl
  have s4 := s3.alu H hM h0 (by decide) (d := 4) rfl 0 (by decide) (by decide) (by decide) (by decide) rfl rfl
  have R4 := (((Zd.reach (t := t) s1).trans (Zd.reach (t := t) s2)).trans (Zd.reach (t := t) s3)).trans (Zd.reach (t := t) s4)
  obtain ⟨m5, fl5, g5, s5, e4, e5, e6, r5⟩ := loop_ct (t := t) H hM h0 s4 hn rfl rfl rfl hal (n - 1) (by omega)
  have hb := cntA_b (al := al) (n - 1) fun j hj => (hal j (by omega)).2
  have hb2 := cntA_b (al := al) n fun j hj => (hal j (by omega)).2
  obtain ⟨hl, hv⟩ := hal (n - 1) (by omega)
  have hnn : cntA al n = cntA al (n - 1) + al (n - 1) := by
    obtain ⟨k, rfl⟩ : ∃ k, n = k + 1 := ⟨n - 1, by omega⟩
    rfl
  have s6 := s5.ld H hM h0 (by decide) (d := 1) rfl (76 + 16 * (n - 1)) (al (n - 1)) (by decide) (by decide) (by
    show (g5 4 + 76 % 4294967296) % 4294967296 = _
    rw [e4]; omega) (by omega) (by omega) hl
  have s7 := s6.alu H hM h0 (by decide) (d := 6) rfl (cntA al n) (by decide) (by decide) (by decide) (by decide) rfl (by
    show (g5 6 + al (n - 1)) % 4294967296 = _
    rw [e6]; omega)
  have s8 := s7.alu H hM h0 (by decide) (d := 4) rfl (16 * (n : Int)) (by decide) (by decide) (by decide) (by decide) rfl (by
    show (g5 4 + 16 % 4294967296) % 4294967296 = _
    rw [e4]; omega)
  have s9 := s8.cm H hM h0 (by decide) rfl (by decide) (by decide)
  have s10 := s9.bn H hM (by decide) (d := 5) (n := -4) rfl (by
    show W1.hv 5 (W1.fl (16 * (n : Int)) (g5 5)) = false
    rw [e5, cond_ltu _ _ ⟨by omega, by omega⟩ ⟨by omega, by omega⟩]
    exact decide_eq_false (by omega))
  have R10 := (((((R4.trans r5).trans (Zd.reach (t := t) s6)).trans (Zd.reach (t := t) s7)).trans (Zd.reach (t := t) s8)).trans (Zd.reach (t := t) s9)).trans (Zd.reach (t := t) s10)
  obtain ⟨u, hue⟩ : ∃ u, u = m0.ch 0 := ⟨_, rfl⟩
  obtain ⟨k, hk⟩ : ∃ k, k = cntA al n := ⟨_, rfl⟩
  rw [← hk] at hpos hb2 s10
  have s11 := s10.ch' H hM (by decide) rfl hcl
  rw [← hue] at s11 hu ⊢
  obtain ⟨u0, u1⟩ := hu
  have s12 := s11.alu H hM h0 (by decide) (d := 1) rfl (u % 2) (by decide) (by decide) (by decide) (by decide) rfl (by
    show bits .and .u32 u 1 = _
    exact I2.and_1 u ⟨u0, u1⟩)
  have s13 := s12.alu H hM h0 (by decide) (d := 7) rfl (u / 2) (by decide) (by decide) (by decide) (by decide) rfl (by
    show u / 2 ^ ((1 : Int) % 32).toNat = _
    rfl)
  have kd : ∀ {b : Int}, b = k → W1.dok (5 - 1) b = true := fun e => by
    have : (k == 0) = false := by simpa using (by omega : k ≠ 0)
    rw [e]; unfold W1.dok; rw [this]; rfl
  have rem : ∀ a : Int, 0 ≤ a → a < 2147483648 → W1.dv 4 a k = a % k := fun a a0 a1 => by
    rw [W1.dv_4 _ _ (by omega)]
    have w1 : wrap32 a = a := by unfold wrap32; omega
    have w2 : wrap32 k = k := by unfold wrap32; omega
    have e1 := Int.emod_nonneg a (b := k) (by omega)
    have e2 := Int.emod_lt_of_pos a (b := k) (by omega)
    rw [w1, w2, Int.tmod_eq_emod_of_nonneg a0]
    omega
  have s14 := s13.alu H hM h0 (by decide) (d := 7) rfl (u / 2 % k) (by decide) (by decide) (by decide) (by decide) (kd rfl) (by
    show W1.dv 4 (u / 2) k = _
    exact rem _ (by omega) (by omega))
  have e1 := Int.emod_nonneg (u / 2) (b := k) (by omega)
  have e2 := Int.emod_lt_of_pos (u / 2) (b := k) (by omega)
  have s15 := s14.alu H hM h0 (by decide) (d := 7) rfl (2 * (u / 2 % k)) (by decide) (by decide) (by decide) (by decide) rfl (by
    show (u / 2 % k + u / 2 % k) % 4294967296 = _
    omega)
  have s16 := s15.alu H hM h0 (by decide) (d := 7) rfl (2 * (u / 2 % k) + u % 2) (by decide) (by decide) (by decide) (by decide) rfl (by
    show (2 * (u / 2 % k) + u % 2) % 4294967296 = _
    omega)
  have s17 := s16.alu H hM h0 (by decide) (d := 7) rfl (u % k) (by decide) (by decide) (by decide) (by decide) (kd rfl) (by
    show W1.dv 4 (2 * (u / 2 % k) + u % 2) k = _
    rw [rem _ (by omega) (by omega)]
    have : u = 2 * (u / 2) + u % 2 := by omega
    conv => rhs; rw [this]
    rw [Int.add_emod, Int.mul_emod, Int.emod_emod_of_dvd _ (Int.dvd_refl k), ← Int.mul_emod, ← Int.add_emod])
  have s18 := s17.alu H hM h0 (by decide) (d := 4) rfl 0 (by decide) (by decide) (by decide) (by decide) rfl rfl
  refine ⟨_, _, _, s18, rfl, by rw [← hk]; rfl, ?_⟩
  have R14 := (((R10.trans (Zd.reach (t := t) s11)).trans (Zd.reach (t := t) s12)).trans (Zd.reach (t := t) s13)).trans (Zd.reach (t := t) s14)
  have R18 := (((R14.trans (Zd.reach (t := t) s15)).trans (Zd.reach (t := t) s16)).trans (Zd.reach (t := t) s17)).trans (Zd.reach (t := t) s18)
  rw [show 5 * n + 12 = 1 + (1 + (1 + (1 + (1 + (1 + (1 + (1 + (1 + (1 + (1 + (1 + (1 + (5 * (n - 1) + (1 + (1 + (1 + 1)))))))))))))))) by omega]
  exact R18
/-- The threads before the chosen one are passed over. -/
theorem loop_fi (H : Z0 m0) (hM : ZMem m0.nw f) (h0 : R 640 = 0) (h : Zd m0 c v (768 + 4 * ((56 : Nat) : Int)) fl tp f R g cl m) {n T : Nat} (hn : T < n ∧ n ≤ 4) {al : Nat → Int} (hal : ∀ j, j < n → ldB f (76 + 16 * j) 4 = al j ∧ (al j = 0 ∨ al j = 1)) (g4 : g 4 = 0) (g7 : g 7 = cntA al T) :
    ∀ k : Nat, k ≤ T → ∃ m' fl' g', Zd m0 c v (768 + 4 * ((56 : Nat) : Int)) fl' tp f R g' cl m' ∧ g' 4 = 16 * (k : Int) ∧ g' 7 = cntA al T - cntA al k ∧ K6.Reach t m (6 * k) m'
  | 0, _ => ⟨m, fl, g, h, g4, by rw [g7]; show _ = _ - (0 : Int); omega, K6.Reach.zero t m⟩
  | k + 1, hk => by
    obtain ⟨m1, fl1, g1, s1, e4, e7, r1⟩ := loop_fi H hM h0 h hn hal g4 g7 k (by omega)
    have hbT := cntA_b (al := al) T fun j hj => (hal j (by omega)).2
    have hb := cntA_b (al := al) k fun j hj => (hal j (by omega)).2
    have hup := cntA_up (al := al) (n := n) (fun j hj => (hal j hj).2) (T - (k + 1)) (k + 1) (by omega)
    rw [show k + 1 + (T - (k + 1)) = T by omega] at hup
    have hk1 : cntA al (k + 1) = cntA al k + al k := rfl
    obtain ⟨hl, hv⟩ := hal k (by omega)
    have s2 := s1.ld H hM h0 (by decide) (d := 1) rfl (76 + 16 * k) (al k) (by decide) (by decide) (by
      show (g1 4 + 76 % 4294967296) % 4294967296 = _
      rw [e4]; push_cast; omega) (by omega) (by omega) hl
    have s3 := s2.alu H hM h0 (by decide) (d := 7) rfl (cntA al T - cntA al (k + 1)) (by decide) (by decide) (by decide) (by decide) rfl (by
      show (g1 7 - al k) % 4294967296 = _
      rw [e7]; omega)
    have s4 := s3.cm H hM h0 (by decide) rfl (by decide) (by decide)
    have s5 := s4.bn H hM (by decide) (d := 3) (n := 3) rfl (by
      show W1.hv 3 (W1.fl (cntA al T - cntA al (k + 1)) 0) = false
      rw [cond_lt _ _ ⟨by omega, by omega⟩ ⟨by omega, by omega⟩]
      have w1 : wrap32 (cntA al T - cntA al (k + 1)) = cntA al T - cntA al (k + 1) := by unfold wrap32; omega
      have w2 : wrap32 0 = 0 := by unfold wrap32; omega
      rw [w1, w2]
      exact decide_eq_false (by omega))
    have s6 := s5.alu H hM h0 (by decide) (d := 4) rfl (16 * ((k + 1 : Nat) : Int)) (by decide) (by decide) (by decide) (by decide) rfl (by
      show (g1 4 + 16 % 4294967296) % 4294967296 = _
      rw [e4]; push_cast; omega)
    have s7 := s6.bt H hM (by decide) (d := 0) (n := -5) rfl (by unfold W1.hv; rw [if_pos rfl]) 56 (by decide) (by decide) (by decide)
    refine ⟨_, _, _, s7, rfl, rfl, ?_⟩
    have R4 := ((r1.trans (Zd.reach (t := t) s2)).trans (Zd.reach (t := t) s3)).trans (Zd.reach (t := t) s4)
    have R7 := ((R4.trans (Zd.reach (t := t) s5)).trans (Zd.reach (t := t) s6)).trans (Zd.reach (t := t) s7)
    rw [show 6 * (k + 1) = 1 + (1 + (1 + (1 + (1 + (1 + 6 * k))))) by omega]
    exact R7
/-- What the chosen thread T makes of memory, registers. -/
def nxF (f : Nat → Int) (T : Nat) : Nat → Int := stB (stB f 128 4 T) 136 4 (ldB f (72 + 16 * T) 4)
def nxR (n c : Int) (f R : Nat → Int) (T : Nat) : Nat → Int := ldR (F3.upd R (F3.loc n c 16 14) (ldB f (68 + 16 * T) 4)) (nxF f T) c (ldB f (68 + 16 * T) 4).toNat 16
theorem nxF_far {f : Nat → Int} {T a : Nat} (h : a + 4 ≤ 128 ∨ 140 ≤ a) : ldB (nxF f T) a 4 = ldB f a 4 := (ld_far (by omega)).trans (ld_far (by omega))
theorem zd_pack {u pc : Int} (h : Zd m0 c v pc fl tp f R g cl m) (e : g 4 = u) : ∃ fl' g', Zd m0 c v pc fl' tp f R g' cl m ∧ g' 4 = u := ⟨_, _, h, e⟩
/-- The chosen thread is found. -/
theorem found (H : Z0 m0) (hM : ZMem m0.nw f) (h0 : R 640 = 0) (h : Zd m0 c v (768 + 4 * ((39 : Nat) : Int)) fl tp f R g m0.cl m) (hcl : 0 < m0.cl) (hu : W32 (m0.ch 0)) {n T : Nat} (hn : T < n ∧ n ≤ 4) (hth : ldB f 132 4 = n) {al : Nat → Int} (hal : ∀ j, j < n → ldB f (76 + 16 * j) 4 = al j ∧ (al j = 0 ∨ al j = 1)) (hT : al T = 1) (hx : cntA al T = m0.ch 0 % cntA al n) (hpos : 0 < cntA al n) :
    ∃ m' fl' g', Zd m0 c v (768 + 4 * ((62 : Nat) : Int)) fl' tp f R g' (m0.cl - 1) m' ∧ (0 ≤ fl' ∧ fl' ≤ 15) ∧ g' 4 = 16 * (T : Int) ∧ K6.Reach t m (5 * n + 6 * T + 16) m' := by
  obtain ⟨m1, fl1, g1, s1, e4, e7, r1⟩ := choose (t := t) H hM h0 h hcl hu ⟨by omega, hn.2⟩ hth hal hpos
  obtain ⟨m2, fl2, g2, s2, q4, q7, r2⟩ := loop_fi (t := t) H hM h0 s1 hn hal e4 (e7.trans hx.symm) T (Nat.le_refl _)
  rw [Int.sub_self] at q7
  obtain ⟨hl, _⟩ := hal T hn.1
  rw [hT] at hl
  have s3 := s2.ld H hM h0 (by decide) (d := 1) rfl (76 + 16 * T) 1 (by decide) (by decide) (by
    show (g2 4 + 76 % 4294967296) % 4294967296 = _
    rw [q4]; push_cast; omega) (by omega) (by omega) hl
  have s4 := s3.alu H hM h0 (by decide) (d := 7) rfl 4294967295 (by decide) (by decide) (by decide) (by decide) rfl (by
    show (g2 7 - 1) % 4294967296 = _
    rw [q7]; decide)
  have s5 := s4.cm H hM h0 (by decide) rfl (by decide) (by decide)
  have s6 := s5.bt H hM (by decide) (d := 3) (n := 3) rfl (by
    show W1.hv 3 (W1.fl 4294967295 0) = true
    rw [cond_lt _ _ ⟨by decide, by decide⟩ ⟨by decide, by decide⟩]
    exact decide_eq_true (by unfold wrap32; omega)) 62 (by decide) (by decide) (by decide)
  have R6 := (((((r1.trans r2).trans (Zd.reach (t := t) s3)).trans (Zd.reach (t := t) s4)).trans (Zd.reach (t := t) s5)).trans (Zd.reach (t := t) s6))
  rw [show 1 + (1 + (1 + (1 + (6 * T + (5 * n + 12))))) = 5 * n + 6 * T + 16 by omega] at R6
  exact ⟨_, _, _, s6, W1.fl_bd _ _, q4, R6⟩
/-- It goes on. -/
theorem goes2 (H : Z0 m0) (hM : ZMem m0.nw f) (h0 : R 640 = 0) (s6 : Zd m0 m0.cwp v (768 + 4 * ((62 : Nat) : Int)) fl tp f R g cl m) (hfl : 0 ≤ fl ∧ fl ≤ 15) {T : Nat} (hT : T < 4) (q4 : g 4 = 16 * (T : Int))
    (h4 : ldB f (68 + 16 * T) 4 % 4 = 0) (hlo : 0 ≤ ldB f (68 + 16 * T) 4) (hhi : ldB f (68 + 16 * T) 4 + 64 ≤ 8192) (ht : t = ldB f (64 + 16 * T) 4) :
    ∃ e k, Zn m0 (P4.pw ((m0.cwp + 1) % m0.nw).toNat) t (nxF f T) (nxR m0.nw m0.cwp f R T) e ∧ Runs t k m e ∧ k ≤ 32 := by
  have n2 := H.n2
  have n32 := H.n32
  have c0 := H.c0
  have c1 := H.c1
  have s7 := s6.alu H hM h0 (by decide) (d := 1) rfl T (by decide) (by decide) (by decide) (by decide) rfl (by
    show W1.dv 3 (g 4) 16 = _
    rw [q4, W1.dv_3 _ _ (by decide)]
    have w1 : wrap32 (16 * (T : Int)) = 16 * (T : Int) := by unfold wrap32; omega
    have w2 : wrap32 16 = 16 := by unfold wrap32; omega
    rw [w1, w2, Int.tdiv_eq_ediv_of_nonneg (by omega)]
    omega)
  have s8 := s7.st H hM h0 (by decide) (d := 1) rfl 128 (by decide) (by show ((0 : Int) + 128 % 4294967296) % 4294967296 = _; decide) (by decide) (by decide) T (s7.get h0 (by decide))
  have hM8 := hM.st (a := 128) (.inr (by decide)) T
  have s9 := s8.ld H hM8 h0 (by decide) (d := 1) rfl (72 + 16 * T) (ldB f (72 + 16 * T) 4) (by decide) (by decide) (by
    show (g 4 + 72 % 4294967296) % 4294967296 = _
    rw [q4]; push_cast; omega) (by omega) (by omega) (ld_far (by omega))
  have s10 := s9.st H hM8 h0 (by decide) (d := 1) rfl 136 (by decide) (by show ((0 : Int) + 136 % 4294967296) % 4294967296 = _; decide) (by decide) (by decide) _ (s9.get h0 (by decide))
  have hM10 : ZMem m0.nw (nxF f T) := hM8.st (a := 136) (.inr (by decide)) _
  have s10 : Zd m0 m0.cwp v _ _ tp (nxF f T) R _ _ _ := s10
  have s11 := s10.lo H hM10 h0 ⟨c0, c1⟩ (by decide) rfl (68 + 16 * T) (ldB f (68 + 16 * T) 4) (by decide) (by
    show (g 4 + 68 % 4294967296) % 4294967296 = _
    rw [q4]; push_cast; omega) (by omega) (by omega) (nxF_far (by omega))
  have R11 := ((((Zd.reach (t := t) s7).trans (Zd.reach (t := t) s8)).trans (Zd.reach (t := t) s9)).trans (Zd.reach (t := t) s10)).trans (Zd.reach (t := t) s11)
  obtain ⟨g9, e9, s11⟩ : ∃ g', g' 4 = 16 * (T : Int) ∧ Zd m0 m0.cwp v (768 + 4 * ((67 : Nat) : Int)) fl tp (nxF f T) _ g' cl _ := ⟨_, q4, s11⟩
  have hlt := out_lt n2 n32 c0 c1
  have h1 : F3.upd R (F3.loc m0.nw m0.cwp 16 14) (ldB f (68 + 16 * T) 4) 640 = 0 := (F3.upd_ne _ _ (by omega)).trans h0
  have s12 := s11.rd H hM10 (by decide) rfl
  obtain ⟨w1, w2, _⟩ := pword_cut m0.cwp m0.pil _ c0 (by omega) H.p0 H.p1 hfl.1 hfl.2 16 (by decide) (by decide)
  have s13 := s12.alu H hM10 h1 (by decide) (d := 3) rfl m0.cwp (by decide) (by decide) (by decide) (by decide) rfl (by
    show bits .and .u32 (P4.pword m0.cwp m0.pil 16 fl) 31 = _
    rw [I2.and_5 _ w1, w2])
  have s14 := s13.alu H hM10 h1 (by decide) (d := 2) rfl _ (by decide) (by decide) (by decide) (by decide) rfl rfl
  have s15 := s14.alu H hM10 h1 (by decide) (d := 3) rfl (m0.cwp + 1) (by decide) (by decide) (by decide) (by decide) rfl (by
    show (m0.cwp + 1 % 4294967296) % 4294967296 = _
    omega)
  have z0 : 0 ≤ (m0.cwp + 1) % m0.nw := Int.emod_nonneg _ (by omega)
  have z1 : (m0.cwp + 1) % m0.nw < m0.nw := Int.emod_lt_of_pos _ (by omega)
  have s16 := s15.alu H hM10 h1 (by decide) (d := 3) (n := m0.nw) (b := true) rfl ((m0.cwp + 1) % m0.nw) (by decide) (by decide) (by decide) (by decide) (by
    show W1.dok (5 - 1) (m0.nw % 4294967296) = true
    have en : m0.nw % 4294967296 = m0.nw := by omega
    have : (m0.nw == 0) = false := by simpa using (by omega : m0.nw ≠ 0)
    rw [en]; unfold W1.dok; rw [this]; rfl) (by
    show W1.dv 4 (m0.cwp + 1) (m0.nw % 4294967296) = _
    have en : m0.nw % 4294967296 = m0.nw := by omega
    rw [en, W1.dv_4 _ _ (by omega)]
    have w1 : wrap32 (m0.cwp + 1) = m0.cwp + 1 := by unfold wrap32; omega
    have w2 : wrap32 m0.nw = m0.nw := by unfold wrap32; omega
    rw [w1, w2, Int.tmod_eq_emod_of_nonneg (by omega)]
    omega)
  have s17 := s16.alu H hM10 h1 (by decide) (d := 1) rfl 1 (by decide) (by decide) (by decide) (by decide) rfl rfl
  obtain ⟨xn, hxn⟩ : ∃ xn : Nat, (m0.cwp + 1) % m0.nw = xn := ⟨((m0.cwp + 1) % m0.nw).toNat, by omega⟩
  rw [hxn] at s17 z1
  have s18 := s17.alu H hM10 h1 (by decide) (d := 1) rfl (P4.pw xn) (by decide) (by decide) (by decide) (by decide) rfl (by
    show 1 * 2 ^ ((xn : Int) % 32).toNat % 4294967296 = _
    rw [show ((xn : Int) % 32).toNat = xn by omega, Int.one_mul, P4.pw_mod (by omega)])
  have s19 := s18.in H hM10 h1 (by decide) rfl (l := xn) rfl z1
  have R19 := (((((((R11.trans (Zd.reach (t := t) s12)).trans (Zd.reach (t := t) s13)).trans (Zd.reach (t := t) s14)).trans (Zd.reach (t := t) s15)).trans (Zd.reach (t := t) s16)).trans (Zd.reach (t := t) s17)).trans (Zd.reach (t := t) s18)).trans (Zd.reach (t := t) s19)
  obtain ⟨sn, hsn⟩ : ∃ sn : Nat, ldB f (68 + 16 * T) 4 = sn := ⟨(ldB f (68 + 16 * T) 4).toNat, by omega⟩
  obtain ⟨m20, s20, r20⟩ := Zd.lds (t := t) s19 H hM10 ⟨c0, c1⟩ (s := sn) ((F3.upd_same _ _ _).trans hsn) (by omega) (by omega) 16 (by decide)
  obtain ⟨fl3, g3, s20, q3⟩ := zd_pack (u := 16 * (T : Int)) s20 e9
  have s20 : Zd m0 m0.cwp (P4.pw xn) (768 + 4 * ((91 : Nat) : Int)) fl3 tp (nxF f T) (nxR m0.nw m0.cwp f R T) g3 cl m20 := by
    unfold nxR
    rw [hsn]
    rw [hsn] at s20
    exact s20
  have h2 : nxR m0.nw m0.cwp f R T 640 = 0 := by
    unfold nxR ldR
    rw [if_neg (by omega)]
    exact h1
  have s21 := s20.ld H hM10 h2 (by decide) (d := 1) rfl (64 + 16 * T) t (by decide) (by decide) (by
    show (g3 4 + 64 % 4294967296) % 4294967296 = _
    rw [q3]; push_cast; omega) (by omega) (by omega) ((nxF_far (by omega)).trans ht.symm)
  have s22 := s21.wt H hM10 h2 (by decide) rfl
  have s22 : Zd m0 m0.cwp (P4.pw xn) (768 + 4 * ((93 : Nat) : Int)) _ t (nxF f T) (nxR m0.nw m0.cwp f R T) _ cl _ := s22
  have s23 := s22.rt H hM10 (by decide) rfl
  have R22 := ((R19.trans r20).trans (Zd.reach (t := t) s21)).trans (Zd.reach (t := t) s22)
  rw [show ((m0.cwp + 1) % m0.nw).toNat = xn by omega]
  exact ⟨_, _, s23, R22 1 _ (.last s23.sk s23.pc s23.bank), by omega⟩
/-- Another thread goes on. -/
theorem goes (H : Z0 m0) (hM : ZMem m0.nw f) (h0 : R 640 = 0) (h : Zd m0 m0.cwp v (768 + 4 * ((39 : Nat) : Int)) fl tp f R g m0.cl m) (hcl : 0 < m0.cl) (hu : W32 (m0.ch 0)) {n T : Nat} (hn : T < n ∧ n ≤ 4) (hth : ldB f 132 4 = n) {al : Nat → Int} (hal : ∀ j, j < n → ldB f (76 + 16 * j) 4 = al j ∧ (al j = 0 ∨ al j = 1)) (hT : al T = 1) (hx : cntA al T = m0.ch 0 % cntA al n) (hpos : 0 < cntA al n)
    (h4 : ldB f (68 + 16 * T) 4 % 4 = 0) (hlo : 0 ≤ ldB f (68 + 16 * T) 4) (hhi : ldB f (68 + 16 * T) 4 + 64 ≤ 8192) :
    ∃ e k, Zn m0 (P4.pw ((m0.cwp + 1) % m0.nw).toNat) (ldB f (64 + 16 * T) 4) (nxF f T) (nxR m0.nw m0.cwp f R T) e ∧ Runs (ldB f (64 + 16 * T) 4) k m e ∧ k ≤ 86 := by
  obtain ⟨m1, fl1, g1, s1, hf, e4, r1⟩ := found (t := ldB f (64 + 16 * T) 4) H hM h0 h hcl hu hn hth hal hT hx hpos
  obtain ⟨e, k, Z, r, hk⟩ := goes2 H hM h0 s1 hf (by omega) e4 h4 hlo hhi rfl
  exact ⟨e, _, Z, r1 _ _ r, by omega⟩
end
end Go.Proofs.YtiobgnelhiadbaaGreatDoor.S10
