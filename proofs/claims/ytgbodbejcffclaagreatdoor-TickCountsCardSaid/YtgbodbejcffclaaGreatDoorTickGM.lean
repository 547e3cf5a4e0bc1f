/- TickCounts' arithmetic: a machine that is interrupted by any levels, and what has been taken. TickCounts' arithmetic: the memory that made lays; how long a drain may take. -/
import Derived.Test.YtgbodbejcffclaaGreatDoorMachGC
import Derived.Test.YtgbodbejcffclaaGreatDoorTickG
namespace Go.Proofs.YtgbodbejcffclaaGreatDoor.K6
open Go.RowKit T9
set_option linter.unusedVariables false
/-- The memory that made lays. -/
structure TMem (f : Nat → Int) : Prop where
  br : ∀ k : Nat, 1 ≤ k → k ≤ 15 → ldB f (512 + 16 * k) 4 = tBr.word
  h0 : ∀ k : Nat, 1 ≤ k → k ≤ 15 → ldB f (752 + 16 * k) 4 = (tLd k).word
  h1 : ∀ k : Nat, 1 ≤ k → k ≤ 15 → ldB f (756 + 16 * k) 4 = tAd.word
  h2 : ∀ k : Nat, 1 ≤ k → k ≤ 15 → ldB f (760 + 16 * k) 4 = (tSt k).word
  h3 : ∀ k : Nat, 1 ≤ k → k ≤ 15 → ldB f (764 + 16 * k) 4 = tRt.word
  go : ∀ i : Nat, i < 128 → ldB f (1536 + 4 * i) 4 = tGo.word
  low : ∀ j, j < 64 → f j = 0
/-! What is open: levels, innermost first, each with how many steps are left. -/
abbrev Fr := Nat × Nat
def plOf (p : Int) : List Fr → Int | [] => p | (k, _) :: _ => k
def bkOf : List Fr → Int | [] => 0 | (k, _) :: _ => k
def pcOf (i : Nat) : List Fr → Int | [] => 1536 + 4 * (i : Int) | (k, l) :: _ => if l = 5 then 512 + 16 * (k : Int) else 768 + 16 * (k : Int) - 4 * (l : Int)
/-- How many of a level's steps are left; 0: it is not open. -/
def lfOf (k : Nat) : List Fr → Nat | [] => 0 | (j, l) :: r => if j = k then l else lfOf k r
def Open (p : Int) : List Fr → Prop
  | [] => True
  | (k, l) :: r => plOf p r < k ∧ 1 ≤ k ∧ k ≤ 15 ∧ 1 ≤ l ∧ l ≤ 5 ∧ Open p r
def Back (p : Int) (i : Nat) (m : MS) : List Fr → Prop
  | [] => True
  | (k, _) :: r => m.tpc k = pcOf i r ∧ m.tps k = P4.pword 0 (plOf p r) (bkOf r) 0 ∧ Back p i m r
/-- What is open, what was taken, how many of the program's steps were done. -/
structure AB where
  op : List Fr
  c : Nat → Nat
  i : Nat
def updN (c : Nat → Nat) (k v : Nat) : Nat → Nat := fun j => if j = k then v else c j
def astep (p : Int) (S : AB) (lv : Nat) : AB :=
  if lv ≤ 15 ∧ plOf p S.op < (lv : Int) then ⟨(lv, 5) :: S.op, updN S.c lv (S.c lv + 1), S.i⟩
  else match S.op with
    | [] => ⟨[], S.c, S.i + 1⟩
    | (k, l) :: r => if l = 1 then ⟨r, S.c, S.i⟩ else ⟨(k, l - 1) :: r, S.c, S.i⟩
/-- A machine keeps step with that. -/
structure TI (p : Int) (f0 : Nat → Int) (S : AB) (m : MS) : Prop where
  nw : m.nw = 2
  sz : m.sz = 2048
  sk : m.sk = 0
  sv : m.sv = 0
  ol : m.ol = 0
  cwp : m.cwp = 0
  fl : m.fl = 0
  pil : m.pil = plOf p S.op
  bank : m.bank = bkOf S.op
  pc : m.pc = pcOf S.i S.op
  opn : Open p S.op
  back : Back p S.i m S.op
  c0 : S.c 0 = 0
  c1 : ∀ k, S.c k ≤ 1000
  ct : ∀ k, 2 ≤ lfOf k S.op → 1 ≤ S.c k
  f : ∀ j, (64 ≤ j ∨ j < 4) → m.f j = f0 j
  bytes : Bytes m.f
  tick : ∀ k, 1 ≤ k → k ≤ 15 → ldB m.f (4 * k) 4 = if 2 ≤ lfOf k S.op then (S.c k : Int) - 1 else S.c k
  g1 : ∀ k, lfOf k S.op = 3 → m.R (513 + 8 * k) = (S.c k : Int) - 1
  g2 : ∀ k, lfOf k S.op = 2 → m.R (513 + 8 * k) = S.c k
  g0 : ∀ k, k ≤ 15 → m.R (512 + 8 * k) = 0
  o0 : m.R 24 = S.i
  R : ∀ j, j < 512 → j ≠ 24 → m.R j = 0
theorem Open.tail {p : Int} {k l : Nat} {r : List Fr} (h : Open p ((k, l) :: r)) : Open p r := h.2.2.2.2.2
theorem open_lf {p : Int} : ∀ {r : List Fr}, Open p r → ∀ k : Nat, plOf p r < (k : Int) → lfOf k r = 0
  | [], _, _, _ => rfl
  | (j, l) :: r, h, k, hk => by
    have h1 := h.1
    simp only [plOf] at hk
    unfold lfOf
    rw [if_neg (by omega)]
    exact open_lf h.tail k (by omega)
theorem open_le {p : Int} : ∀ {r : List Fr}, Open p r → ∀ k : Nat, lfOf k r ≠ 0 → (k : Int) ≤ plOf p r ∧ 1 ≤ k ∧ k ≤ 15 ∧ lfOf k r ≤ 5
  | [], _, _, h => absurd rfl h
  | (j, l) :: r, h, k, hk => by
    obtain ⟨h1, h2, h3, h4, h5, h6⟩ := h
    unfold lfOf at hk ⊢
    show (k : Int) ≤ j ∧ _
    by_cases e : j = k
    · subst e
      rw [if_pos rfl] at *
      exact ⟨Int.le_refl _, h2, h3, h5⟩
    · rw [if_neg e] at *
      obtain ⟨a, b, c, d⟩ := open_le h6 k hk
      exact ⟨by omega, b, c, d⟩
theorem back_of {p : Int} {i : Nat} {m m' : MS} : ∀ {r : List Fr}, Back p i m r → (∀ k, lfOf k r ≠ 0 → m'.tpc k = m.tpc k ∧ m'.tps k = m.tps k) → Open p r → Back p i m' r
  | [], _, _, _ => trivial
  | (j, l) :: r, h, hk, ho => by
    obtain ⟨a, b, c⟩ := h
    have hj := hk j (by unfold lfOf; rw [if_pos rfl]; have := ho.2.2.2.1; omega)
    refine ⟨hj.1.trans a, hj.2.trans b, back_of c (fun k hkk => ?_) ho.tail⟩
    refine hk k ?_
    unfold lfOf
    split
    · rename_i e; have := ho.2.2.2.1; omega
    · exact hkk
theorem pl_ge {p : Int} (h0 : 0 ≤ p) : ∀ {r : List Fr}, Open p r → 0 ≤ plOf p r ∧ p ≤ plOf p r
  | [], _ => ⟨h0, Int.le_refl _⟩
  | (k, l) :: r, h => by
    have := (pl_ge h0 h.tail).2
    have h1 := h.1
    show 0 ≤ (k : Int) ∧ p ≤ (k : Int)
    omega
theorem pl_le {p : Int} (h0 : p ≤ 15) : ∀ {r : List Fr}, Open p r → plOf p r ≤ 15 ∧ 0 ≤ bkOf r ∧ bkOf r ≤ 15
  | [], _ => ⟨h0, by decide, by decide⟩
  | (k, l) :: r, h => by
    obtain ⟨h1, h2, h3, _⟩ := h
    show (k : Int) ≤ 15 ∧ 0 ≤ (k : Int) ∧ (k : Int) ≤ 15
    omega
theorem th_4 {a : Int} (h0 : 0 ≤ a) (h : a % 4 = 0) (h1 : a + 4 ≤ 2048) : thE (2048 : Nat) a 4 = 0 := by
  unfold thE; rw [if_neg (by omega), if_neg (by omega), if_neg (by show ¬ ((2048 : Nat) : Int) < a + 4; omega)]
theorem get0 {p : Int} {f0 : Nat → Int} {S : AB} {m : MS} (h : TI p f0 S m) (hp : p ≤ 15) : m.get 0 = 0 := by
  obtain ⟨_, b0, b1⟩ := pl_le hp h.opn
  have hb := h.bank
  unfold MS.get
  have e : F3.loc m.nw m.cwp m.bank 0 = 512 + 8 * m.bank.toNat := by rw [F3.loc_global (by decide)]; omega
  rw [e]
  exact h.g0 _ (by omega)
theorem loc_g1 (n c b : Int) (hb : 0 ≤ b) : F3.loc n c b 1 = 513 + 8 * b.toNat := by rw [F3.loc_global (by decide)]; omega
theorem loc_o0 (b : Int) : F3.loc 2 0 b 8 = 24 := by rw [F3.loc_out0 (by decide) (by decide)]; rfl
theorem st_lo {f : Nat → Int} {a : Nat} {v : Int} {j : Nat} (h : j < a ∨ a + 4 ≤ j) : stB f a 4 v j = f j := by unfold stB; rw [if_neg (by omega)]
theorem pw_parts {p b : Int} (h0 : 0 ≤ p) (h1 : p ≤ 15) (h2 : 0 ≤ b) (h3 : b ≤ 15) : P4.pword 0 p b 0 % 32 = 0 ∧ P4.pword 0 p b 0 / 32 % 16 = p ∧ P4.pword 0 p b 0 / 512 % 32 = b ∧ P4.pword 0 p b 0 / 16384 % 16 = 0 ∧ wst (P4.pword 0 p b 0) 2 = true := by
  have e : P4.pword 0 p b 0 = 32 * p + 512 * b := by unfold P4.pword; omega
  rw [e]
  refine ⟨by omega, by omega, by omega, by omega, ?_⟩
  unfold wst
  exact decide_eq_true (by omega)
/-- No interrupt is taken: what lies at the PC is done. -/
theorem quiet_step {m : MS} {lv : Int} {x : A7.XI} (hx : A7.XB x) (hm : x.may = true) (hs : m.sk = 0) (hl : ¬ (lv ≤ 15 ∧ m.pil < lv)) (ht : thE m.sz m.pc 4 = 0) (hw : ldB m.f m.pc.toNat 4 = x.word) :
    mstep m lv = mExec m x.o x.d x.n (m.get x.s) (if x.b then x.n % 4294967296 else m.get x.t) := by
  have e : x.word = I2.enc x.o x.d x.s x.t x.b x.n := I2.eW_yes hm
  obtain ⟨d1, d2, d3, d4, d5, d6, d7⟩ := I2.back_enc hx.o hx.d hx.s hx.t hm
  unfold mstep
  rw [if_neg (by simpa using hs), if_neg hl, if_pos ht, hw, e]
  unfold mWord
  rw [d1, d2, d3, d4, d5, d6, d7]
  rfl
section
variable {p : Int} {f0 : Nat → Int} {S : AB} {m : MS} {lv : Nat}
/-- An interrupt is taken. -/
theorem ti_take (h : TI p f0 S m) (h0 : 0 ≤ p) (h1 : p ≤ 15) (hl : lv ≤ 15) (hp : plOf p S.op < (lv : Int)) (hc : S.c lv < 1000) : TI p f0 ⟨(lv, 5) :: S.op, updN S.c lv (S.c lv + 1), S.i⟩ ((m.trap lv (16 + lv) m.pc).lvl lv) := by
  have hpl := (pl_ge h0 h.opn).1
  have hnl := open_lf h.opn lv hp
  have hlf : ∀ k, k ≠ lv → lfOf k ((lv, 5) :: S.op) = lfOf k S.op := fun k hk => by
    show (if lv = k then 5 else lfOf k S.op) = _
    rw [if_neg (fun e => hk e.symm)]
  have hlv : lfOf lv ((lv, 5) :: S.op) = 5 := by show (if lv = lv then 5 else _) = 5; rw [if_pos rfl]
  have hupd : ∀ k, k ≠ lv → updN S.c lv (S.c lv + 1) k = S.c k := fun k hk => by unfold updN; rw [if_neg hk]
  have hupl : updN S.c lv (S.c lv + 1) lv = S.c lv + 1 := by unfold updN; rw [if_pos rfl]
  refine ⟨h.nw, h.sz, h.sk, h.sv, h.ol, h.cwp, h.fl, rfl, rfl, ?_, ⟨hp, by omega, hl, by decide, by decide, h.opn⟩, ⟨?_, ?_, back_of h.back (fun k hk => ?_) h.opn⟩, ?_, fun k => ?_, fun k hk => ?_, h.f, h.bytes, fun k k1 k2 => ?_, fun k hk => ?_, fun k hk => ?_, h.g0, h.o0, h.R⟩
  · show 256 + 16 * (16 + (lv : Int)) = pcOf S.i ((lv, 5) :: S.op)
    simp only [pcOf, if_true]
    omega
  · show F3.upd m.tpc (lv : Int).toNat m.pc lv = _
    rw [Int.toNat_natCast, F3.upd_same, h.pc]
  · show F3.upd m.tps (lv : Int).toNat m.pw lv = _
    rw [Int.toNat_natCast, F3.upd_same]
    unfold MS.pw
    rw [h.cwp, h.pil, h.bank, h.fl]
  · have hne : k ≠ lv := fun e => hk (e ▸ hnl)
    refine ⟨?_, ?_⟩
    · show F3.upd m.tpc (lv : Int).toNat m.pc k = _
      rw [Int.toNat_natCast, F3.upd_ne _ _ hne]
    · show F3.upd m.tps (lv : Int).toNat m.pw k = _
      rw [Int.toNat_natCast, F3.upd_ne _ _ hne]
  · show updN S.c lv (S.c lv + 1) 0 = 0
    rw [hupd 0 (by omega)]; exact h.c0
  · show updN S.c lv (S.c lv + 1) k ≤ 1000
    by_cases e : k = lv
    · rw [e, hupl]; omega
    · rw [hupd k e]; exact h.c1 k
  · show 1 ≤ updN S.c lv (S.c lv + 1) k
    by_cases e : k = lv
    · rw [e, hupl]; omega
    · rw [hupd k e]
      simp only at hk
      rw [hlf k e] at hk
      exact h.ct k hk
  · show ldB m.f (4 * k) 4 = if 2 ≤ lfOf k ((lv, 5) :: S.op) then ((updN S.c lv (S.c lv + 1) k : Nat) : Int) - 1 else ((updN S.c lv (S.c lv + 1) k : Nat) : Int)
    rw [h.tick k k1 k2]
    by_cases e : k = lv
    · rw [e, hlv, hupl, hnl, if_neg (by decide), if_pos (by decide)]; omega
    · rw [hlf k e, hupd k e]
  · by_cases e : k = lv
    · simp only at hk; rw [e, hlv] at hk; omega
    · simp only at hk; rw [hlf k e] at hk
      show m.R _ = ((updN S.c lv (S.c lv + 1) k : Nat) : Int) - 1
      rw [hupd k e]; exact h.g1 k hk
  · by_cases e : k = lv
    · simp only at hk; rw [e, hlv] at hk; omega
    · simp only at hk; rw [hlf k e] at hk
      show m.R _ = ((updN S.c lv (S.c lv + 1) k : Nat) : Int)
      rw [hupd k e]; exact h.g2 k hk
/-- A step of the program. -/
theorem ti_go (hM : TMem f0) (h : TI p f0 S m) (h1 : p ≤ 15) (hop : S.op = []) (hi : S.i < 128) {l : Int} (hl : ¬ (l ≤ 15 ∧ m.pil < l)) :
    mstep m l = (m.set 8 ((m.get 8 + 1) % 4294967296)).on ∧ TI p f0 ⟨[], S.c, S.i + 1⟩ (mstep m l) := by
  obtain ⟨op, c, i⟩ := S
  simp only at hop
  subst hop
  have hpc : m.pc = 1536 + 4 * (i : Int) := h.pc
  have hi' : i < 128 := hi
  have hbank : m.bank = 0 := h.bank
  have hw : ldB m.f m.pc.toNat 4 = tGo.word := by
    rw [← hM.go i hi', hpc]
    have e : (1536 + 4 * (i : Int)).toNat = 1536 + 4 * i := by omega
    rw [e]
    simp only [ldB]
    rw [h.f _ (by omega), h.f _ (by omega), h.f _ (by omega), h.f _ (by omega)]
  have ht : thE m.sz m.pc 4 = 0 := by rw [h.sz, hpc]; exact th_4 (by omega) (by omega) (by omega)
  have E : mstep m l = (m.set 8 ((m.get 8 + 1) % 4294967296)).on := quiet_step tGo_b tGo_may h.sk hl ht hw
  have g8 : m.get 8 = i := by unfold MS.get; rw [h.nw, h.cwp, loc_o0]; exact h.o0
  have e8 : (m.get 8 + 1) % 4294967296 = ((i + 1 : Nat) : Int) := by rw [g8]; omega
  refine ⟨E, ?_⟩
  rw [E, e8]
  have hR : ∀ j, (m.set 8 ((i + 1 : Nat) : Int)).R j = if j = 24 then ((i + 1 : Nat) : Int) else m.R j := fun j => by
    show F3.setR m.R m.nw m.cwp m.bank 8 ((i + 1 : Nat) : Int) j = _
    unfold F3.setR
    rw [if_neg (by decide), h.nw, h.cwp, loc_o0]
    rfl
  refine ⟨h.nw, h.sz, h.sk, h.sv, h.ol, h.cwp, h.fl, h.pil, h.bank, ?_, trivial, trivial, h.c0, h.c1, h.ct, h.f, h.bytes, h.tick, fun k hk => (by cases hk), fun k hk => (by cases hk), fun k hk => ?_, ?_, fun j hj hj2 => ?_⟩
  · show (m.pc + 4) % 4294967296 = 1536 + 4 * ((i + 1 : Nat) : Int)
    rw [hpc]; omega
  · show (m.set 8 ((i + 1 : Nat) : Int)).R (512 + 8 * k) = 0
    rw [hR, if_neg (by omega)]; exact h.g0 k hk
  · show (m.set 8 ((i + 1 : Nat) : Int)).R 24 = _
    rw [hR, if_pos rfl]
  · show (m.set 8 ((i + 1 : Nat) : Int)).R j = 0
    rw [hR, if_neg hj2]; exact h.R j hj hj2
/-- A step of a handler. -/
theorem ti_in (hM : TMem f0) (h : TI p f0 S m) (h0 : 0 ≤ p) (h1 : p ≤ 15) {k l : Nat} {r : List Fr} (hop : S.op = (k, l) :: r) {lw : Int} (hl : ¬ (lw ≤ 15 ∧ m.pil < lw)) :
    TI p f0 (if l = 1 then ⟨r, S.c, S.i⟩ else ⟨(k, l - 1) :: r, S.c, S.i⟩) (mstep m lw) := by
  obtain ⟨op, c, i⟩ := S
  simp only at hop
  subst hop
  have ho : Open p ((k, l) :: r) := h.opn
  obtain ⟨o1, o2, o3, o4, o5, o6⟩ := ho
  have hpl := (pl_ge h0 o6).1
  obtain ⟨hpl15, hb0, hb15⟩ := pl_le h1 o6
  have hbank : m.bank = k := h.bank
  have hbk : m.bank.toNat = k := by rw [hbank]; exact Int.toNat_natCast k
  have hpil : m.pil = k := h.pil
  have hkr : lfOf k r = 0 := open_lf o6 k o1
  have hlfk : ∀ l', lfOf k ((k, l') :: r) = l' := fun l' => by show (if k = k then l' else _) = l'; rw [if_pos rfl]
  have hlfn : ∀ l' j, j ≠ k → lfOf j ((k, l') :: r) = lfOf j r := fun l' j hj => by show (if k = j then l' else lfOf j r) = _; rw [if_neg (fun e => hj e.symm)]
  have hg0 := get0 h h1
  have loc1 : F3.loc m.nw m.cwp m.bank 1 = 513 + 8 * k := by rw [hbank, loc_g1 _ _ _ (by omega)]; omega
  have hld : ∀ a : Nat, 64 ≤ a → ldB m.f a 4 = ldB f0 a 4 := fun a ha => by
    simp only [ldB]
    rw [h.f _ (by omega), h.f _ (by omega), h.f _ (by omega), h.f _ (by omega)]
  have hpc : m.pc = pcOf i ((k, l) :: r) := h.pc
  have hc1 := h.c1 k
  -- a state that differs in g1 of this bank, and in what is left
  have hR : ∀ v j, (m.set 1 v).R j = if j = 513 + 8 * k then v else m.R j := fun v j => by
    show F3.setR m.R m.nw m.cwp m.bank 1 v j = _
    unfold F3.setR
    rw [if_neg (by decide), loc1]
    rfl
  rcases (by omega : l = 5 ∨ l = 4 ∨ l = 3 ∨ l = 2 ∨ l = 1) with rfl | rfl | rfl | rfl | rfl
  · -- the vector's branch
    have hpc' : m.pc = 512 + 16 * (k : Int) := hpc
    have ht : thE m.sz m.pc 4 = 0 := by rw [h.sz, hpc']; exact th_4 (by omega) (by omega) (by omega)
    have hw : ldB m.f m.pc.toNat 4 = tBr.word := by rw [hpc', show (512 + 16 * (k : Int)).toNat = 512 + 16 * k by omega, hld _ (by omega)]; exact hM.br k o2 o3
    have E : mstep m lw = m.jmp ((m.pc + 4 * (60 % 4294967296) % 4294967296) % 4294967296) := by
      rw [quiet_step tBr_b tBr_may h.sk hl ht hw]
      show (if W1.hv 0 m.fl then m.jmp _ else m.on) = _
      rw [if_pos (by rw [h.fl]; kernel_rfl)]
      rfl
    rw [E, if_neg (by decide)]
    have l2 : lfOf k ((k, 4) :: r) = 4 := hlfk 4
    have tk := h.tick
    refine ⟨h.nw, h.sz, h.sk, h.sv, h.ol, h.cwp, h.fl, h.pil, h.bank, ?_, ⟨o1, o2, o3, by decide, by decide, o6⟩, ⟨h.back.1, h.back.2.1, back_of h.back.2.2 (fun _ _ => ⟨rfl, rfl⟩) o6⟩, h.c0, h.c1, fun j hj => ?_, h.f, h.bytes, fun j j1 j2 => ?_, fun j hj => ?_, fun j hj => ?_, h.g0, h.o0, h.R⟩
    · show (m.pc + 4 * (60 % 4294967296) % 4294967296) % 4294967296 = 768 + 16 * (k : Int) - 4 * ((4 : Nat) : Int)
      rw [hpc']; omega
    · refine h.ct j ?_
      by_cases e : j = k
      · rw [e, hlfk]; decide
      · rw [hlfn _ _ e]; rw [hlfn _ _ e] at hj; exact hj
    · have t := h.tick j j1 j2
      by_cases e : j = k
      · rw [e] at t ⊢; rw [hlfk] at t; show ldB m.f (4 * k) 4 = if 2 ≤ lfOf k ((k, 4) :: r) then _ else _; rw [hlfk]; exact t
      · rw [hlfn _ _ e] at t; show ldB m.f (4 * j) 4 = if 2 ≤ lfOf j ((k, 4) :: r) then _ else _; rw [hlfn _ _ e]; exact t
    · by_cases e : j = k
      · rw [e] at hj; have := hlfk 4; rw [this] at hj; omega
      · have := hlfn 4 j e; rw [this] at hj; exact h.g1 j (by rw [hlfn _ _ e]; exact hj)
    · by_cases e : j = k
      · rw [e] at hj; have := hlfk 4; rw [this] at hj; omega
      · have := hlfn 4 j e; rw [this] at hj; exact h.g2 j (by rw [hlfn _ _ e]; exact hj)
  · -- the ticks are loaded
    have hpc' : m.pc = 752 + 16 * (k : Int) := by rw [hpc]; show (if (4 : Nat) = 5 then 512 + 16 * (k : Int) else 768 + 16 * (k : Int) - 4 * ((4 : Nat) : Int)) = _; rw [if_neg (by decide)]; omega
    have ht : thE m.sz m.pc 4 = 0 := by rw [h.sz, hpc']; exact th_4 (by omega) (by omega) (by omega)
    have hw : ldB m.f m.pc.toNat 4 = (tLd k).word := by rw [hpc', show (752 + 16 * (k : Int)).toNat = 752 + 16 * k by omega, hld _ (by omega)]; exact hM.h0 k o2 o3
    have ha : (m.get 0 + 4 * (k : Int) % 4294967296) % 4294967296 = 4 * (k : Int) := by rw [hg0]; omega
    have tk := h.tick k o2 o3
    rw [hlfk, if_pos (by decide)] at tk
    have E : mstep m lw = (m.set 1 ((c k : Int) - 1)).on := by
      rw [quiet_step (tLd_b ⟨by omega, by omega⟩) (tLd_may ⟨by omega, by omega⟩) h.sk hl ht hw]
      show mLd m 1 ((m.get 0 + 4 * (k : Int) % 4294967296) % 4294967296) 4 = _
      rw [ha]
      unfold mLd
      rw [if_pos (by rw [h.sz]; exact th_4 (by omega) (by omega) (by omega)), show (4 * (k : Int)).toNat = 4 * k by omega]
      show (m.set 1 (ldB m.f (4 * k) 4)).on = _
      rw [tk]
    rw [E, if_neg (by decide)]
    refine ⟨h.nw, h.sz, h.sk, h.sv, h.ol, h.cwp, h.fl, h.pil, h.bank, ?_, ⟨o1, o2, o3, by decide, by decide, o6⟩, ⟨h.back.1, h.back.2.1, back_of h.back.2.2 (fun _ _ => ⟨rfl, rfl⟩) o6⟩, h.c0, h.c1, fun j hj => ?_, h.f, h.bytes, fun j j1 j2 => ?_, fun j hj => ?_, fun j hj => ?_, fun j hj => ?_, ?_, fun j hj hj2 => ?_⟩
    · show (m.pc + 4) % 4294967296 = 768 + 16 * (k : Int) - 4 * ((3 : Nat) : Int)
      rw [hpc']; omega
    · refine h.ct j ?_
      by_cases e : j = k
      · rw [e, hlfk]; decide
      · rw [hlfn _ _ e]; rw [hlfn _ _ e] at hj; exact hj
    · have t := h.tick j j1 j2
      by_cases e : j = k
      · rw [e] at t ⊢; rw [hlfk] at t; show ldB m.f (4 * k) 4 = if 2 ≤ lfOf k ((k, 3) :: r) then _ else _; rw [hlfk]; exact t
      · rw [hlfn _ _ e] at t; show ldB m.f (4 * j) 4 = if 2 ≤ lfOf j ((k, 3) :: r) then _ else _; rw [hlfn _ _ e]; exact t
    · show (m.set 1 ((c k : Int) - 1)).R (513 + 8 * j) = (c j : Int) - 1
      rw [hR]
      by_cases e : j = k
      · rw [if_pos (by omega), e]
      · have := hlfn 3 j e; rw [this] at hj; rw [if_neg (by omega)]; exact h.g1 j (by rw [hlfn _ _ e]; exact hj)
    · show (m.set 1 ((c k : Int) - 1)).R (513 + 8 * j) = (c j : Int)
      by_cases e : j = k
      · rw [e] at hj; have := hlfk 3; rw [this] at hj; omega
      · have := hlfn 3 j e; rw [this] at hj; rw [hR, if_neg (by omega)]; exact h.g2 j (by rw [hlfn _ _ e]; exact hj)
    · show (m.set 1 ((c k : Int) - 1)).R (512 + 8 * j) = 0
      rw [hR, if_neg (by omega)]; exact h.g0 j hj
    · show (m.set 1 ((c k : Int) - 1)).R 24 = i
      rw [hR, if_neg (by omega)]; exact h.o0
    · show (m.set 1 ((c k : Int) - 1)).R j = 0
      rw [hR, if_neg (by omega)]; exact h.R j hj hj2
  · -- increased
    have hpc' : m.pc = 756 + 16 * (k : Int) := by rw [hpc]; show (if (3 : Nat) = 5 then 512 + 16 * (k : Int) else 768 + 16 * (k : Int) - 4 * ((3 : Nat) : Int)) = _; rw [if_neg (by decide)]; omega
    have ht : thE m.sz m.pc 4 = 0 := by rw [h.sz, hpc']; exact th_4 (by omega) (by omega) (by omega)
    have hw : ldB m.f m.pc.toNat 4 = tAd.word := by rw [hpc', show (756 + 16 * (k : Int)).toNat = 756 + 16 * k by omega, hld _ (by omega)]; exact hM.h1 k o2 o3
    have hg : m.get 1 = (c k : Int) - 1 := by
      unfold MS.get
      rw [loc1]
      exact h.g1 k (hlfk 3)
    have hcp := h.ct k (by rw [hlfk]; decide)
    simp only at hcp hc1
    have E : mstep m lw = (m.set 1 (c k : Int)).on := by
      rw [quiet_step tAd_b tAd_may h.sk hl ht hw]
      show (m.set 1 ((m.get 1 + 1 % 4294967296) % 4294967296)).on = _
      rw [hg, show ((c k : Int) - 1 + 1 % 4294967296) % 4294967296 = (c k : Int) by omega]
    rw [E, if_neg (by decide)]
    refine ⟨h.nw, h.sz, h.sk, h.sv, h.ol, h.cwp, h.fl, h.pil, h.bank, ?_, ⟨o1, o2, o3, by decide, by decide, o6⟩, ⟨h.back.1, h.back.2.1, back_of h.back.2.2 (fun _ _ => ⟨rfl, rfl⟩) o6⟩, h.c0, h.c1, fun j hj => ?_, h.f, h.bytes, fun j j1 j2 => ?_, fun j hj => ?_, fun j hj => ?_, fun j hj => ?_, ?_, fun j hj hj2 => ?_⟩
    · show (m.pc + 4) % 4294967296 = 768 + 16 * (k : Int) - 4 * ((2 : Nat) : Int)
      rw [hpc']; omega
    · refine h.ct j ?_
      by_cases e : j = k
      · rw [e, hlfk]; decide
      · rw [hlfn _ _ e]; rw [hlfn _ _ e] at hj; exact hj
    · have t := h.tick j j1 j2
      by_cases e : j = k
      · rw [e] at t ⊢; rw [hlfk] at t; show ldB m.f (4 * k) 4 = if 2 ≤ lfOf k ((k, 2) :: r) then _ else _; rw [hlfk]; exact t
      · rw [hlfn _ _ e] at t; show ldB m.f (4 * j) 4 = if 2 ≤ lfOf j ((k, 2) :: r) then _ else _; rw [hlfn _ _ e]; exact t
    · show (m.set 1 (c k : Int)).R (513 + 8 * j) = (c j : Int) - 1
      by_cases e : j = k
      · rw [e] at hj; have := hlfk 2; rw [this] at hj; omega
      · have := hlfn 2 j e; rw [this] at hj; rw [hR, if_neg (by omega)]; exact h.g1 j (by rw [hlfn _ _ e]; exact hj)
    · show (m.set 1 (c k : Int)).R (513 + 8 * j) = (c j : Int)
      rw [hR]
      by_cases e : j = k
      · rw [if_pos (by omega), e]
      · have := hlfn 2 j e; rw [this] at hj; rw [if_neg (by omega)]; exact h.g2 j (by rw [hlfn _ _ e]; exact hj)
    · show (m.set 1 (c k : Int)).R (512 + 8 * j) = 0
      rw [hR, if_neg (by omega)]; exact h.g0 j hj
    · show (m.set 1 (c k : Int)).R 24 = i
      rw [hR, if_neg (by omega)]; exact h.o0
    · show (m.set 1 (c k : Int)).R j = 0
      rw [hR, if_neg (by omega)]; exact h.R j hj hj2
  · -- stored
    have hpc' : m.pc = 760 + 16 * (k : Int) := by rw [hpc]; show (if (2 : Nat) = 5 then 512 + 16 * (k : Int) else 768 + 16 * (k : Int) - 4 * ((2 : Nat) : Int)) = _; rw [if_neg (by decide)]; omega
    have ht : thE m.sz m.pc 4 = 0 := by rw [h.sz, hpc']; exact th_4 (by omega) (by omega) (by omega)
    have hw : ldB m.f m.pc.toNat 4 = (tSt k).word := by rw [hpc', show (760 + 16 * (k : Int)).toNat = 760 + 16 * k by omega, hld _ (by omega)]; exact hM.h2 k o2 o3
    have ha : (m.get 0 + 4 * (k : Int) % 4294967296) % 4294967296 = 4 * (k : Int) := by rw [hg0]; omega
    have hg : m.get 1 = (c k : Int) := by
      unfold MS.get
      rw [loc1]
      exact h.g2 k (hlfk 2)
    simp only at hc1
    have E : mstep m lw = (m.byt (stB m.f (4 * k) 4 (c k : Int))).on := by
      rw [quiet_step (tSt_b ⟨by omega, by omega⟩) (tSt_may ⟨by omega, by omega⟩) h.sk hl ht hw]
      show mSt m 1 ((m.get 0 + 4 * (k : Int) % 4294967296) % 4294967296) 4 = _
      rw [ha]
      unfold mSt
      rw [if_pos (by rw [h.sz]; exact th_4 (by omega) (by omega) (by omega)), show (4 * (k : Int)).toNat = 4 * k by omega, hg]
      rfl
    rw [E, if_neg (by decide)]
    refine ⟨h.nw, h.sz, h.sk, h.sv, h.ol, h.cwp, h.fl, h.pil, h.bank, ?_, ⟨o1, o2, o3, by decide, by decide, o6⟩, ⟨h.back.1, h.back.2.1, back_of h.back.2.2 (fun _ _ => ⟨rfl, rfl⟩) o6⟩, h.c0, h.c1, fun j hj => ?_, fun j hj => ?_, stB_bytes h.bytes _ _ _, fun j j1 j2 => ?_, fun j hj => ?_, fun j hj => ?_, h.g0, h.o0, h.R⟩
    · show (m.pc + 4) % 4294967296 = 768 + 16 * (k : Int) - 4 * ((1 : Nat) : Int)
      rw [hpc']; omega
    · refine h.ct j ?_
      by_cases e : j = k
      · rw [e, hlfk]; decide
      · rw [hlfn _ _ e]; rw [hlfn _ _ e] at hj; exact hj
    · show stB m.f (4 * k) 4 (c k : Int) j = f0 j
      rw [st_lo (by omega)]; exact h.f j hj
    · have t := h.tick j j1 j2
      show ldB (stB m.f (4 * k) 4 (c k : Int)) (4 * j) 4 = if 2 ≤ lfOf j ((k, 1) :: r) then _ else _
      by_cases e : j = k
      · rw [e, hlfk, if_neg (by decide)]; exact ld_st ⟨by omega, by omega⟩
      · rw [hlfn _ _ e] at t; rw [hlfn _ _ e, ld_far (by omega)]; exact t
    · by_cases e : j = k
      · rw [e] at hj; have := hlfk 1; rw [this] at hj; omega
      · have := hlfn 1 j e; rw [this] at hj; exact h.g1 j (by rw [hlfn _ _ e]; exact hj)
    · by_cases e : j = k
      · rw [e] at hj; have := hlfk 1; rw [this] at hj; omega
      · have := hlfn 1 j e; rw [this] at hj; exact h.g2 j (by rw [hlfn _ _ e]; exact hj)
  · -- back
    have hpc' : m.pc = 764 + 16 * (k : Int) := by rw [hpc]; show (if (1 : Nat) = 5 then 512 + 16 * (k : Int) else 768 + 16 * (k : Int) - 4 * ((1 : Nat) : Int)) = _; rw [if_neg (by decide)]; omega
    have ht : thE m.sz m.pc 4 = 0 := by rw [h.sz, hpc']; exact th_4 (by omega) (by omega) (by omega)
    have hw : ldB m.f m.pc.toNat 4 = tRt.word := by rw [hpc', show (764 + 16 * (k : Int)).toNat = 764 + 16 * k by omega, hld _ (by omega)]; exact hM.h3 k o2 o3
    obtain ⟨b1, b2, b3⟩ := h.back
    obtain ⟨w1, w2, w3, w4, w5⟩ := pw_parts hpl hpl15 hb0 hb15
    have E : mstep m lw = (m.psr (m.tps k)).jmp (m.tpc k) := by
      rw [quiet_step tRt_b tRt_may h.sk hl ht hw]
      show (if m.bank = 0 then m.stp 3 0 else if wst (m.tps m.bank.toNat) m.nw then (m.psr (m.tps m.bank.toNat)).jmp (m.tpc m.bank.toNat) else m.stp 3 0) = _
      rw [hbk, if_neg (by omega), if_pos (by rw [b2, h.nw]; exact w5)]
    rw [E, b1, b2, if_pos rfl]
    refine ⟨h.nw, h.sz, h.sk, h.sv, h.ol, w1, w4, w2, w3, rfl, o6, back_of b3 (fun _ _ => ⟨rfl, rfl⟩) o6, h.c0, h.c1, fun j hj => ?_, h.f, h.bytes, fun j j1 j2 => ?_, fun j hj => ?_, fun j hj => ?_, h.g0, h.o0, h.R⟩
    · refine h.ct j ?_
      by_cases e : j = k
      · simp only at hj; rw [e, hkr] at hj; omega
      · rw [hlfn _ _ e]; exact hj
    · have t := h.tick j j1 j2
      show ldB m.f (4 * j) 4 = if 2 ≤ lfOf j r then _ else _
      by_cases e : j = k
      · rw [e] at t ⊢; rw [hlfk] at t; rw [hkr]; exact t
      · rw [hlfn _ _ e] at t; exact t
    · by_cases e : j = k
      · simp only at hj; rw [e, hkr] at hj; omega
      · exact h.g1 j (by rw [hlfn _ _ e]; exact hj)
    · by_cases e : j = k
      · simp only at hj; rw [e, hkr] at hj; omega
      · exact h.g2 j (by rw [hlfn _ _ e]; exact hj)
/-- Any step. -/
theorem ti_step (hM : TMem f0) (h : TI p f0 S m) (h0 : 0 ≤ p) (h1 : p ≤ 15) (hi : S.i < 128) (hc : ∀ k, S.c k < 1000) : TI p f0 (astep p S lv) (mstep m lv) := by
  unfold astep
  by_cases hl : lv ≤ 15 ∧ plOf p S.op < (lv : Int)
  · rw [if_pos hl]
    have E : mstep m lv = (m.trap lv (16 + lv) m.pc).lvl lv := by
      unfold mstep
      rw [if_neg (by rw [h.sk]; decide), if_pos ⟨by omega, by rw [h.pil]; exact hl.2⟩]
    rw [E]
    exact ti_take h h0 h1 hl.1 hl.2 (hc lv)
  · rw [if_neg hl]
    have hl' : ¬ ((lv : Int) ≤ 15 ∧ m.pil < (lv : Int)) := fun ⟨a, b⟩ => hl ⟨by omega, by rw [← h.pil]; exact b⟩
    match hop : S.op with
    | [] => exact (ti_go hM h h1 hop hi hl').2
    | (k, l) :: r => exact ti_in hM h h0 h1 hop hl'
end
end Go.Proofs.YtgbodbejcffclaaGreatDoor.K6
namespace Go.Proofs.YtgbodbejcffclaaGreatDoor.K6
open Go.RowKit T9
set_option linter.unusedVariables false
theorem ld_put (f : Nat → Int) (a : Nat) (g : Nat → Int) (hg : ∀ i, W32 (g i)) : ∀ k i, i < k → ldB (ptB f a g k) (a + 4 * i) 4 = g i
  | 0, i, h => absurd h (Nat.not_lt_zero _)
  | k + 1, i, h => by
    show ldB (stB (ptB f a g k) (a + 4 * k) 4 (g k)) (a + 4 * i) 4 = g i
    by_cases e : i = k
    · subst e; exact ld_st (hg i)
    · rw [ld_far (by omega)]; exact ld_put f a g hg k i (by omega)
theorem pt_lo (f : Nat → Int) (a : Nat) (g : Nat → Int) : ∀ k j, j < a → ptB f a g k j = f j
  | 0, _, _ => rfl
  | k + 1, j, h => by
    show stB (ptB f a g k) (a + 4 * k) 4 (g k) j = f j
    rw [st_lo (by omega)]; exact pt_lo f a g k j h
/-- The handlers' words, beyond them anything that is a word. -/
def tWs (i : Nat) : Int := if i < 60 then tW i else 0
theorem tWs_w (i : Nat) : W32 (tWs i) := by
  unfold tWs
  split
  · exact xw_w (tX_b ⟨by omega, by omega⟩ _)
  · exact ⟨Int.le_refl _, by decide⟩
def fBr (f : Nat → Int) : Nat → Nat → Int
  | 0 => f
  | k + 1 => stB (fBr f k) (512 + 16 * (k + 1)) 4 tBr.word
def fGo (f : Nat → Int) : Nat → Nat → Int
  | 0 => f
  | k + 1 => stB (fGo f k) (1536 + 4 * k) 4 tGo.word
def fA : Nat → Int := ptB (fun _ => 0) 768 tWs 60
def fAll : Nat → Int := fGo (fBr fA 15) 128
theorem br_far (f : Nat → Int) : ∀ k c, (c + 4 ≤ 528 ∨ 768 ≤ c) → k ≤ 15 → ldB (fBr f k) c 4 = ldB f c 4
  | 0, _, _, _ => rfl
  | k + 1, c, h, hk => by
    show ldB (stB (fBr f k) (512 + 16 * (k + 1)) 4 tBr.word) c 4 = _
    rw [ld_far (by omega)]; exact br_far f k c h (by omega)
theorem br_lo (f : Nat → Int) : ∀ k j, j < 512 → fBr f k j = f j
  | 0, _, _ => rfl
  | k + 1, j, h => by
    show stB (fBr f k) (512 + 16 * (k + 1)) 4 tBr.word j = _
    rw [st_lo (by omega)]; exact br_lo f k j h
theorem br_at (f : Nat → Int) : ∀ k i, 1 ≤ i → i ≤ k → ldB (fBr f k) (512 + 16 * i) 4 = tBr.word
  | 0, i, h, h' => by omega
  | k + 1, i, h, h' => by
    show ldB (stB (fBr f k) (512 + 16 * (k + 1)) 4 tBr.word) (512 + 16 * i) 4 = _
    by_cases e : i = k + 1
    · subst e; exact ld_st (xw_w tBr_b)
    · rw [ld_far (by omega)]; exact br_at f k i h (by omega)
theorem go_far (f : Nat → Int) : ∀ k c, c + 4 ≤ 1536 → ldB (fGo f k) c 4 = ldB f c 4
  | 0, _, _ => rfl
  | k + 1, c, h => by
    show ldB (stB (fGo f k) (1536 + 4 * k) 4 tGo.word) c 4 = _
    rw [ld_far (by omega)]; exact go_far f k c h
theorem go_lo (f : Nat → Int) : ∀ k j, j < 1536 → fGo f k j = f j
  | 0, _, _ => rfl
  | k + 1, j, h => by
    show stB (fGo f k) (1536 + 4 * k) 4 tGo.word j = _
    rw [st_lo (by omega)]; exact go_lo f k j h
theorem go_at (f : Nat → Int) : ∀ k i, i < k → ldB (fGo f k) (1536 + 4 * i) 4 = tGo.word
  | 0, i, h => by omega
  | k + 1, i, h => by
    show ldB (stB (fGo f k) (1536 + 4 * k) 4 tGo.word) (1536 + 4 * i) 4 = _
    by_cases e : i = k
    · subst e; exact ld_st (xw_w tGo_b)
    · rw [ld_far (by omega)]; exact go_at f k i (by omega)
theorem fA_at {k j : Nat} (h1 : 1 ≤ k) (h2 : k ≤ 15) (hj : j < 4) : ldB fAll (752 + 16 * k + 4 * j) 4 = (tX k j).word := by
  unfold fAll
  rw [go_far _ _ _ (by omega), br_far _ _ _ (by omega) (by decide)]
  have e := ld_put (fun _ => 0) 768 tWs tWs_w 60 (4 * (k - 1) + j) (by omega)
  rw [show 752 + 16 * k + 4 * j = 768 + 4 * (4 * (k - 1) + j) by omega]
  unfold fA
  rw [e]
  unfold tWs tW
  rw [if_pos (by omega), show (4 * (k - 1) + j) / 4 + 1 = k by omega, show (4 * (k - 1) + j) % 4 = j by omega]
theorem tmem_all : TMem fAll where
  br := fun k h1 h2 => by unfold fAll; rw [go_far _ _ _ (by omega)]; exact br_at _ _ _ h1 h2
  h0 := fun k h1 h2 => fA_at (j := 0) h1 h2 (by decide)
  h1 := fun k h1 h2 => by have := fA_at (j := 1) h1 h2 (by decide); rw [show 752 + 16 * k + 4 * 1 = 756 + 16 * k by omega] at this; exact this
  h2 := fun k h1 h2 => by have := fA_at (j := 2) h1 h2 (by decide); rw [show 752 + 16 * k + 4 * 2 = 760 + 16 * k by omega] at this; exact this
  h3 := fun k h1 h2 => by have := fA_at (j := 3) h1 h2 (by decide); rw [show 752 + 16 * k + 4 * 3 = 764 + 16 * k by omega] at this; exact this
  go := fun i h => go_at _ _ _ h
  low := fun j h => by unfold fAll; rw [go_lo _ _ _ (by omega), br_lo _ _ _ (by omega)]; unfold fA; rw [pt_lo _ _ _ _ _ (by omega)]
theorem fAll_bytes : Bytes fAll := by
  have h0 : Bytes fA := ptB_bytes M5.bytes_zero _ _ _
  have h1 : ∀ k, Bytes (fBr fA k) := fun k => by
    induction k with
    | zero => exact h0
    | succ k ih => exact stB_bytes ih _ _ _
  have h2 : ∀ k, Bytes (fGo (fBr fA 15) k) := fun k => by
    induction k with
    | zero => exact h1 15
    | succ k ih => exact stB_bytes ih _ _ _
  exact h2 128
/-! A drain. -/
def sumF : List Fr → Nat | [] => 0 | (_, l) :: r => l + sumF r
theorem sum_le {p : Int} (h0 : 0 ≤ p) : ∀ {r : List Fr}, Open p r → (sumF r : Int) ≤ 5 * (plOf p r - p)
  | [], _ => by show ((0 : Nat) : Int) ≤ 5 * (p - p); omega
  | (k, l) :: r, h => by
    obtain ⟨h1, h2, h3, h4, h5, h6⟩ := h
    have := sum_le h0 h6
    show ((l + sumF r : Nat) : Int) ≤ 5 * ((k : Int) - p)
    omega
theorem sum_75 {p : Int} (h0 : 0 ≤ p) (h1 : p ≤ 15) {r : List Fr} (h : Open p r) : sumF r ≤ 75 := by
  have a := sum_le h0 h
  have b := (pl_le h1 h).1
  omega
theorem astep_drain {p : Int} (h0 : 0 ≤ p) {S : AB} (h : Open p S.op) (hn : S.op ≠ []) : sumF (astep p S 0).op + 1 = sumF S.op ∧ (astep p S 0).c = S.c ∧ (astep p S 0).i = S.i := by
  unfold astep
  have hp := (pl_ge h0 h).1
  rw [if_neg (by omega)]
  match hop : S.op with
  | [] => exact absurd hop hn
  | (k, l) :: r =>
    rw [hop] at h
    have hl := h.2.2.2.1
    by_cases e : l = 1
    · simp only [e, if_true]; refine ⟨?_, trivial, trivial⟩; show sumF r + 1 = 1 + sumF r; omega
    · simp only [if_neg e]; refine ⟨?_, trivial, trivial⟩; show l - 1 + sumF r + 1 = l + sumF r; omega
theorem sum_zero {p : Int} {r : List Fr} (h : Open p r) : sumF r = 0 → r = [] := fun e => by
  match r, h with
  | [], _ => rfl
  | (k, l) :: r, h => have := h.2.2.2.1; simp only [sumF] at e; omega
theorem bk_zero {p : Int} {r : List Fr} (h : Open p r) : bkOf r = 0 ↔ r = [] := by
  match r, h with
  | [], _ => exact ⟨fun _ => rfl, fun _ => rfl⟩
  | (k, l) :: r, h =>
    have := h.2.1
    refine ⟨fun e => ?_, fun e => by cases e⟩
    have e' : (k : Int) = 0 := e
    omega
/-! All levels, one behind the other. -/
def asteps (p : Int) (L : Nat → Nat) : Nat → AB
  | 0 => ⟨[], fun _ => 0, 0⟩
  | n + 1 => astep p (asteps p L n) (L n)
theorem astep_bd {p : Int} (S : AB) (lv : Nat) : (astep p S lv).i ≤ S.i + 1 ∧ ∀ k, (astep p S lv).c k ≤ S.c k + 1 := by
  unfold astep
  split
  · refine ⟨Nat.le_succ _, fun k => ?_⟩
    show updN S.c lv (S.c lv + 1) k ≤ _
    unfold updN
    split
    · rename_i e; rw [e]; exact Nat.le_refl _
    · exact Nat.le_succ _
  · split
    · exact ⟨Nat.le_refl _, fun _ => Nat.le_succ _⟩
    · split
      · exact ⟨Nat.le_succ _, fun _ => Nat.le_succ _⟩
      · exact ⟨Nat.le_succ _, fun _ => Nat.le_succ _⟩
theorem asteps_bd {p : Int} (L : Nat → Nat) : ∀ n, (asteps p L n).i ≤ n ∧ ∀ k, (asteps p L n).c k ≤ n
  | 0 => ⟨Nat.le_refl _, fun _ => Nat.le_refl _⟩
  | n + 1 => by
    obtain ⟨a, b⟩ := asteps_bd (p := p) L n
    obtain ⟨c, d⟩ := astep_bd (p := p) (asteps p L n) (L n)
    refine ⟨?_, fun k => ?_⟩
    · show (astep p (asteps p L n) (L n)).i ≤ _; omega
    · show (astep p (asteps p L n) (L n)).c k ≤ _; have := b k; have := d k; omega
/-- The machine that made makes. -/
def mT (p : Int) : MS := { mnew 2 2048 with f := fAll, pc := 1536, pil := p }
theorem ti_start {p : Int} : TI p fAll ⟨[], fun _ => 0, 0⟩ (mT p) :=
  ⟨rfl, rfl, rfl, rfl, rfl, rfl, rfl, rfl, rfl, rfl, trivial, trivial, rfl, fun _ => Nat.zero_le _, fun k h => by simp [lfOf] at h, fun _ _ => rfl, fAll_bytes, fun k h1 h2 => by
    show ldB fAll (4 * k) 4 = 0
    have h := tmem_all.low
    simp only [ldB]
    rw [h _ (by omega), h _ (by omega), h _ (by omega), h _ (by omega)]
    rfl, fun k h => by simp [lfOf] at h, fun k h => by simp [lfOf] at h, fun _ _ => rfl, rfl, fun _ _ _ => rfl⟩
/-! Ticks that are set back. -/
def fZ (f : Nat → Int) : Nat → Nat → Int
  | 0 => f
  | k + 1 => stB (fZ f k) (4 * k) 4 0
theorem fZ_at (f : Nat → Int) : ∀ k j, fZ f k j = if j < 4 * k then 0 else f j
  | 0, j => by rw [if_neg (by omega)]; rfl
  | k + 1, j => by
    show stB (fZ f k) (4 * k) 4 0 j = _
    unfold stB
    by_cases h : 4 * k ≤ j ∧ j < 4 * k + 4
    · rw [if_pos h, if_pos (by omega), Int.zero_ediv]; rfl
    · rw [if_neg h, fZ_at f k j]
      by_cases h2 : j < 4 * k
      · rw [if_pos h2, if_pos (by omega)]
      · rw [if_neg h2, if_neg (by omega)]
theorem fZ_ld (f : Nat → Int) (k : Nat) : ldB (fZ f k) (4 * k) 4 = ldB f (4 * k) 4 := by
  simp only [ldB]
  rw [fZ_at, fZ_at, fZ_at, fZ_at, if_neg (by omega), if_neg (by omega), if_neg (by omega), if_neg (by omega)]
theorem ti_back {p : Int} {S : AB} {m : MS} (h : TI p fAll S m) (j : Nat) : fZ m.f 16 j = fAll j := by
  rw [fZ_at]
  by_cases hj : j < 4 * 16
  · rw [if_pos hj]; exact (tmem_all.low j (by omega)).symm
  · rw [if_neg hj]; exact h.f j (by omega)
/-- What the ticks are when nothing is open. -/
theorem ti_ticks {p : Int} {S : AB} {m : MS} (h : TI p fAll S m) (hop : S.op = []) (k : Nat) (hk : k ≤ 15) : ldB m.f (4 * k) 4 = S.c k := by
  by_cases h0 : k = 0
  · subst h0
    rw [h.c0]
    have e : ∀ j, j < 4 → m.f j = 0 := fun j hj => (h.f j (.inr hj)).trans (tmem_all.low j (by omega))
    show ldB m.f 0 4 = 0
    simp only [ldB]
    rw [e _ (by omega), e _ (by omega), e _ (by omega), e _ (by omega)]
    rfl
  · have t := h.tick k (by omega) hk
    rw [hop] at t
    exact t
end Go.Proofs.YtgbodbejcffclaaGreatDoor.K6
