/- Plain arithmetic of layer 2 (inst), which imports nothing of the translation: which instructions may be, their words, and what a word may be the word of; and facts on them. -/
import Derived.RowKit
import Derived.Laws.Entries
import Derived.Laws.BitsAllLaws
namespace Go.Proofs.YtgbodbejcffclaaDoor.I2
open Go.RowKit

/-- The Ops with Rd, Rs1 and a second one; with Rs1 and a second one; whose word has 21 bits of a number. -/
def Ka (o : Int) : Prop := (1 ≤ o ∧ o ≤ 14) ∨ (19 ≤ o ∧ o ≤ 25)
def Kb (o : Int) : Prop := o = 16 ∨ o = 27 ∨ o = 29
def Wd (o : Int) : Prop := o = 15 ∨ o = 17 ∨ o = 18
/-- Which instructions with a number may be. -/
def MayT (o d s t n : Int) : Prop :=
  t = 0 ∧ ((Ka o ∧ d ≤ 31 ∧ s ≤ 31 ∧ -16384 ≤ n ∧ n ≤ 16383) ∨ (Kb o ∧ d = 0 ∧ s ≤ 31 ∧ -16384 ≤ n ∧ n ≤ 16383)
    ∨ (o = 15 ∧ d ≤ 31 ∧ s = 0 ∧ 0 ≤ n ∧ n ≤ 2097151) ∨ (o = 17 ∧ d ≤ 6 ∧ s = 0 ∧ -1048576 ≤ n ∧ n ≤ 1048575) ∨ (o = 18 ∧ d = 0 ∧ s = 0 ∧ -1048576 ≤ n ∧ n ≤ 1048575)
    ∨ (o = 30 ∧ d ≤ 31 ∧ s = 0 ∧ 0 ≤ n ∧ n ≤ 1) ∨ (o = 31 ∧ d = 0 ∧ s ≤ 31 ∧ 0 ≤ n ∧ n ≤ 1) ∨ (o = 33 ∧ d = 0 ∧ s = 0 ∧ 3 ≤ n ∧ n ≤ 4) ∨ (o = 37 ∧ d = 0 ∧ s = 0 ∧ 1 ≤ n ∧ n ≤ 3))
/-- Which instructions without a number may be. -/
def MayF (o d s t n : Int) : Prop :=
  n = 0 ∧ ((Ka o ∧ d ≤ 31 ∧ s ≤ 31 ∧ t ≤ 31) ∨ (Kb o ∧ d = 0 ∧ s ≤ 31 ∧ t ≤ 31) ∨ ((o = 26 ∨ o = 28 ∨ o = 34) ∧ d ≤ 31 ∧ s = 0 ∧ t = 0)
    ∨ ((o = 35 ∨ o = 36) ∧ d = 0 ∧ s ≤ 31 ∧ t = 0) ∨ (o = 32 ∧ d = 0 ∧ s = 0 ∧ t = 0))
instance (o : Int) : Decidable (Ka o) := by unfold Ka; infer_instance
instance (o : Int) : Decidable (Kb o) := by unfold Kb; infer_instance
instance (o : Int) : Decidable (Wd o) := by unfold Wd; infer_instance
instance (o d s t n : Int) : Decidable (MayT o d s t n) := by unfold MayT; infer_instance
instance (o d s t n : Int) : Decidable (MayF o d s t n) := by unfold MayF; infer_instance
def may (o d s t : Int) (b : Bool) (n : Int) : Bool := if b then decide (MayT o d s t n) else decide (MayF o d s t n)
theorem may_t (o d s t n : Int) : may o d s t true n = decide (MayT o d s t n) := rfl
theorem may_f (o d s t n : Int) : may o d s t false n = decide (MayF o d s t n) := rfl

/-- An instruction's word. -/
def enc (o d s t : Int) (b : Bool) (n : Int) : Int :=
  if Wd o then o * 67108864 + d * 2097152 + n % 2097152
  else if b then o * 67108864 + d * 2097152 + s * 65536 + 32768 + n % 32768
  else o * 67108864 + d * 2097152 + s * 65536 + t
/-- What is answered: the word or 0, and the error's number. -/
def eW (o d s t : Int) (b : Bool) (n : Int) : Int := if may o d s t b n then enc o d s t b n else 0
def eE (o d s t : Int) (b : Bool) (n : Int) : Int := if may o d s t b n then 0 else 2
theorem eW_yes {o d s t : Int} {b : Bool} {n : Int} (h : may o d s t b n = true) : eW o d s t b n = enc o d s t b n := by unfold eW; rw [if_pos h]
theorem eE_yes {o d s t : Int} {b : Bool} {n : Int} (h : may o d s t b n = true) : eE o d s t b n = 0 := by unfold eE; rw [if_pos h]
theorem eW_no {o d s t : Int} {b : Bool} {n : Int} (h : may o d s t b n = false) : eW o d s t b n = 0 := by unfold eW; rw [if_neg (by simp [h])]
theorem eE_no {o d s t : Int} {b : Bool} {n : Int} (h : may o d s t b n = false) : eE o d s t b n = 2 := by unfold eE; rw [if_neg (by simp [h])]

/-- What a word may be the word of. -/
def cO (w : Int) : Int := w / 67108864
def cD (w : Int) : Int := w / 2097152 % 32
def cS (w : Int) : Int := if Wd (cO w) then 0 else w / 65536 % 32
def cB (w : Int) : Bool := decide (Wd (cO w)) || w / 32768 % 2 == 1
def cT (w : Int) : Int := if Wd (cO w) then 0 else if w / 32768 % 2 == 1 then 0 else w % 32
/-- A number of 21 or 15 bits, with its sign. -/
def sg (p h : Int) : Int := if h ≤ p then p - 2 * h else p
def cN (w : Int) : Int := if Wd (cO w) then (if cO w = 15 then w % 2097152 else sg (w % 2097152) 1048576) else if w / 32768 % 2 == 1 then sg (w % 32768) 16384 else 0
def cM (w : Int) : Bool := may (cO w) (cD w) (cS w) (cT w) (cB w) (cN w)
def cE (w : Int) : Int := enc (cO w) (cD w) (cS w) (cT w) (cB w) (cN w)
/-- Whether a word is an instruction's, and which. -/
def dk (w : Int) : Bool := cM w && cE w == w
def dO (w : Int) : Int := if dk w then cO w else 0
def dD (w : Int) : Int := if dk w then cD w else 0
def dS (w : Int) : Int := if dk w then cS w else 0
def dT (w : Int) : Int := if dk w then cT w else 0
def dB (w : Int) : Bool := dk w && cB w
def dN (w : Int) : Int := if dk w then cN w else 0

theorem enc_bd {o d s t : Int} {b : Bool} {n : Int} (ho : 0 ≤ o ∧ o ≤ 255) (hd : 0 ≤ d ∧ d ≤ 255) (hs : 0 ≤ s ∧ s ≤ 255) (ht : 0 ≤ t ∧ t ≤ 255) (h : may o d s t b n = true) : 0 < enc o d s t b n ∧ enc o d s t b n < 4294967296 := by
  cases b
  · have h' : MayF o d s t n := of_decide_eq_true h
    unfold MayF Ka Kb at h'
    unfold enc
    split
    · omega
    · rw [if_neg (by decide)]; omega
  · have h' : MayT o d s t n := of_decide_eq_true h
    unfold MayT Ka Kb at h'
    unfold enc
    split
    · omega
    · rw [if_pos rfl]; omega
theorem eW_bd {o d s t : Int} {b : Bool} {n : Int} (ho : 0 ≤ o ∧ o ≤ 255) (hd : 0 ≤ d ∧ d ≤ 255) (hs : 0 ≤ s ∧ s ≤ 255) (ht : 0 ≤ t ∧ t ≤ 255) : 0 ≤ eW o d s t b n ∧ eW o d s t b n < 4294967296 := by
  cases h : may o d s t b n
  · rw [eW_no h]; omega
  · rw [eW_yes h]; have := enc_bd ho hd hs ht h; omega

/-- THERE AND BACK: of an instruction's word the parts are the instruction's. -/
theorem parts_enc {o d s t : Int} {b : Bool} {n : Int} (ho : 0 ≤ o ∧ o ≤ 255) (hd : 0 ≤ d ∧ d ≤ 255) (hs : 0 ≤ s ∧ s ≤ 255) (ht : 0 ≤ t ∧ t ≤ 255) (h : may o d s t b n = true) :
    cO (enc o d s t b n) = o ∧ cD (enc o d s t b n) = d ∧ cS (enc o d s t b n) = s ∧ cT (enc o d s t b n) = t ∧ cB (enc o d s t b n) = b ∧ cN (enc o d s t b n) = n := by
  cases b
  · have h' : MayF o d s t n := of_decide_eq_true h
    unfold MayF Ka Kb at h'
    have nw : ¬ Wd o := by unfold Wd; omega
    have e : enc o d s t false n = o * 67108864 + d * 2097152 + s * 65536 + t := by unfold enc; rw [if_neg nw, if_neg (by decide)]
    rw [e]
    have eO : cO (o * 67108864 + d * 2097152 + s * 65536 + t) = o := by unfold cO; omega
    have e15 : ((o * 67108864 + d * 2097152 + s * 65536 + t) / 32768 % 2 == 1) = false := by simp; omega
    refine ⟨eO, ?_, ?_, ?_, ?_, ?_⟩
    · unfold cD; omega
    · unfold cS; rw [eO, if_neg nw]; omega
    · unfold cT; rw [eO, if_neg nw, e15]; simp; omega
    · unfold cB; rw [eO, e15]; simp [nw]
    · unfold cN; rw [eO, if_neg nw, e15]; simp; omega
  · have h' : MayT o d s t n := of_decide_eq_true h
    unfold MayT Ka Kb at h'
    by_cases w : Wd o
    · have e : enc o d s t true n = o * 67108864 + d * 2097152 + n % 2097152 := by unfold enc; rw [if_pos w]
      rw [e]
      have w' := w
      unfold Wd at w'
      have eO : cO (o * 67108864 + d * 2097152 + n % 2097152) = o := by unfold cO; omega
      refine ⟨eO, ?_, ?_, ?_, ?_, ?_⟩
      · unfold cD; omega
      · unfold cS; rw [eO, if_pos w]; omega
      · unfold cT; rw [eO, if_pos w]; omega
      · unfold cB; rw [eO]; simp [w]
      · unfold cN; rw [eO, if_pos w]
        split
        · omega
        · unfold sg; split <;> omega
    · have e : enc o d s t true n = o * 67108864 + d * 2097152 + s * 65536 + 32768 + n % 32768 := by unfold enc; rw [if_neg w, if_pos rfl]
      rw [e]
      unfold Wd at w
      have eO : cO (o * 67108864 + d * 2097152 + s * 65536 + 32768 + n % 32768) = o := by unfold cO; omega
      have nw : ¬ Wd o := by unfold Wd; omega
      have e15 : ((o * 67108864 + d * 2097152 + s * 65536 + 32768 + n % 32768) / 32768 % 2 == 1) = true := by simp; omega
      refine ⟨eO, ?_, ?_, ?_, ?_, ?_⟩
      · unfold cD; omega
      · unfold cS; rw [eO, if_neg nw]; omega
      · unfold cT; rw [eO, if_neg nw, e15]; simp; omega
      · unfold cB; rw [eO, e15]; simp
      · unfold cN; rw [eO, if_neg nw, e15, if_pos rfl]; unfold sg; split <;> omega
theorem back_enc {o d s t : Int} {b : Bool} {n : Int} (ho : 0 ≤ o ∧ o ≤ 255) (hd : 0 ≤ d ∧ d ≤ 255) (hs : 0 ≤ s ∧ s ≤ 255) (ht : 0 ≤ t ∧ t ≤ 255) (h : may o d s t b n = true) :
    dk (enc o d s t b n) = true ∧ dO (enc o d s t b n) = o ∧ dD (enc o d s t b n) = d ∧ dS (enc o d s t b n) = s ∧ dT (enc o d s t b n) = t ∧ dB (enc o d s t b n) = b ∧ dN (enc o d s t b n) = n := by
  obtain ⟨e1, e2, e3, e4, e5, e6⟩ := parts_enc ho hd hs ht h
  have k : dk (enc o d s t b n) = true := by
    unfold dk cM cE
    rw [e1, e2, e3, e4, e5, e6, h]
    simp
  unfold dO dD dS dT dB dN
  rw [k, e1, e2, e3, e4, e5, e6]
  simp
/-- Words of instructions that are not the same are not the same. -/
theorem enc_inj {o d s t : Int} {b : Bool} {n : Int} {o' d' s' t' : Int} {b' : Bool} {n' : Int} (ho : 0 ≤ o ∧ o ≤ 255) (hd : 0 ≤ d ∧ d ≤ 255) (hs : 0 ≤ s ∧ s ≤ 255) (ht : 0 ≤ t ∧ t ≤ 255) (h : may o d s t b n = true)
    (ho' : 0 ≤ o' ∧ o' ≤ 255) (hd' : 0 ≤ d' ∧ d' ≤ 255) (hs' : 0 ≤ s' ∧ s' ≤ 255) (ht' : 0 ≤ t' ∧ t' ≤ 255) (h' : may o' d' s' t' b' n' = true) (e : enc o d s t b n = enc o' d' s' t' b' n') :
    o = o' ∧ d = d' ∧ s = s' ∧ t = t' ∧ b = b' ∧ n = n' := by
  obtain ⟨e1, e2, e3, e4, e5, e6⟩ := parts_enc ho hd hs ht h
  obtain ⟨f1, f2, f3, f4, f5, f6⟩ := parts_enc ho' hd' hs' ht' h'
  rw [← e] at f1 f2 f3 f4 f5 f6
  exact ⟨e1.symm.trans f1, e2.symm.trans f2, e3.symm.trans f3, e4.symm.trans f4, e5.symm.trans f5, e6.symm.trans f6⟩
theorem c_bd {w : Int} (h : 0 ≤ w ∧ w < 4294967296) : (0 ≤ cO w ∧ cO w ≤ 255) ∧ (0 ≤ cD w ∧ cD w ≤ 255) ∧ (0 ≤ cS w ∧ cS w ≤ 255) ∧ (0 ≤ cT w ∧ cT w ≤ 255) := by
  refine ⟨?_, ?_, ?_, ?_⟩
  · unfold cO; omega
  · unfold cD; omega
  · unfold cS; split <;> omega
  · unfold cT; split
    · omega
    · split <;> omega
end Go.Proofs.YtgbodbejcffclaaDoor.I2
