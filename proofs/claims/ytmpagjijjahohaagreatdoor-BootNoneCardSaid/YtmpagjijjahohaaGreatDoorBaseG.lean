/- Plain arithmetic of layer 5 (mem), which imports nothing of the translation: bytes as a function of their place, what a store makes of them, what a load says, which error an access gets. Plain arithmetic of layer 2 (inst), which imports nothing of the translation: which instructions may be, their words, and what a word may be the word of; and facts on them. Plain arithmetic of layer 3 (file), which imports nothing of the translation: where a register lies, what a list of all that was set says of it, and that the two keep step. Worlds of which the old blocks have not turned, or only one has: facts of no one program. A block of four cells (a state): read, and written whole. Worlds that have only grown, and data without memory of its own: facts of no one program. A region that draws its order, walked once in the order of the text, in a class of worlds of the prover's own choice ('F p', p of any type): what it loads is said for every p, and a callee may leave any world of the class, one with new blocks among them. Slices of numbers of one kind, as a function of the place: read, kept, made by append. One's own 'Grown' out of the library's, and 'Below'. -/
import Derived.RowKit
import Derived.Laws.Entries
import Derived.Laws.BitsAllLaws
import Derived.Test.YtmpagjijjahohaaGreatDoorRows
import Derived.Below
import Derived.Laws.AppendOwn
import Derived.Laws.Rows
import Derived.Great.Walk
import Derived.Deep.WholeRow
import Derived.Lib.Hide
import Derived.WalkSpells
import Derived.WalkLawsBesides
import Derived.Handy
import Derived.OwnWalk
import Derived.IntWalk
import Derived.WalkKit
import Derived.ProofKit
import Derived.OpenShut
import Derived.Deep.QuietTactic
import Derived.BigQuiet
import Derived.Laws.OwnMore
import Derived.Laws.AppendOwnNone
namespace Go.Proofs.YtmpagjijjahohaaGreatDoor
/-- Bytes: each from 0 to 255. -/
def Bytes (f : Nat → Int) : Prop := ∀ i, 0 ≤ f i ∧ f i < 256
/-- What a store of m bytes at a makes of the bytes; the first byte is the most significant. -/
def stB (f : Nat → Int) (a m : Nat) (v : Int) : Nat → Int := fun j => if a ≤ j ∧ j < a + m then v / 256 ^ (a + m - 1 - j) % 256 else f j
/-- After t of its bytes, from the last one on. -/
def stT (f : Nat → Int) (a m : Nat) (v : Int) (t : Nat) : Nat → Int := fun j => if a + m - t ≤ j ∧ j < a + m then v / 256 ^ (a + m - 1 - j) % 256 else f j
def updB (f : Nat → Int) (j : Nat) (v : Int) : Nat → Int := fun i => if i = j then v else f i
theorem stT_zero (f : Nat → Int) (a m : Nat) (v : Int) : stT f a m v 0 = f := by funext j; unfold stT; rw [if_neg (by omega)]
theorem stT_all (f : Nat → Int) (a m : Nat) (v : Int) : stT f a m v m = stB f a m v := by funext j; unfold stT stB; rw [Nat.add_sub_cancel]
theorem stT_succ (f : Nat → Int) (a m : Nat) (v : Int) {t : Nat} (h : t < m) : updB (stT f a m v t) (a + (m - 1 - t)) (v / 256 ^ t % 256) = stT f a m v (t + 1) := by
  funext j
  unfold updB stT
  by_cases e : j = a + (m - 1 - t)
  · rw [if_pos e, if_pos (by omega), show a + m - 1 - j = t by omega]
  · rw [if_neg e]
    by_cases hj : a + m - t ≤ j ∧ j < a + m
    · rw [if_pos hj, if_pos (by omega)]
    · rw [if_neg hj, if_neg (by omega)]
theorem stB_bytes {f : Nat → Int} (h : Bytes f) (a m : Nat) (v : Int) : Bytes (stB f a m v) := fun i => by
  unfold stB
  split
  · exact ⟨Int.emod_nonneg _ (by omega), Int.emod_lt_of_pos _ (by omega)⟩
  · exact h i
/-- What a load of m bytes says. -/
def ldB (f : Nat → Int) (a : Nat) : Nat → Int
  | 0 => 0
  | k + 1 => 256 * ldB f a k + f (a + k)
theorem ldB_in {f : Nat → Int} (h : Bytes f) (a : Nat) : ∀ k, 0 ≤ ldB f a k ∧ ldB f a k < 256 ^ k
  | 0 => ⟨Int.le_refl _, by simp [ldB]⟩
  | k + 1 => by
    obtain ⟨h0, h1⟩ := ldB_in h a k
    obtain ⟨h2, h3⟩ := h (a + k)
    unfold ldB
    rw [Int.pow_succ]
    generalize (256 : Int) ^ k = p at *
    omega
theorem ldB_small {f : Nat → Int} {a k : Nat} (h : ∀ k, 0 ≤ ldB f a k ∧ ldB f a k < 256 ^ k) (hk : k ≤ 3) : 0 ≤ ldB f a k ∧ ldB f a k < 16777216 := by
  obtain ⟨h0, h1⟩ := h k
  have : (256 : Int) ^ k ≤ 16777216 := by
    rcases (by omega : k = 0 ∨ k = 1 ∨ k = 2 ∨ k = 3) with rfl | rfl | rfl | rfl <;> decide
  exact ⟨h0, by omega⟩
theorem div_pow_in {v : Int} (h0 : 0 ≤ v) (h1 : v < 4294967296) (t : Nat) : 0 ≤ v / 256 ^ t ∧ v / 256 ^ t < 4294967296 := by
  have hp : (0 : Int) < 256 ^ t := Int.pow_pos (by decide)
  refine ⟨Int.ediv_nonneg h0 (by omega), Int.lt_of_le_of_lt (Int.ediv_le_self _ h0) h1⟩
theorem div_pow_succ (v : Int) (t : Nat) : v / 256 ^ t / 256 = v / 256 ^ (t + 1) := by
  have hp : (0 : Int) < 256 ^ t := Int.pow_pos (by decide)
  rw [Int.pow_succ]
  exact Int.ediv_ediv_of_nonneg (Int.le_of_lt hp)
/-- The error of an access to m bytes at a. -/
def thE (n a m : Int) : Int := if m ≠ 1 ∧ m ≠ 4 then 2 else if m = 4 ∧ a % 4 ≠ 0 then 51 else if n < a + m then 50 else 0
/-- The error of an access to m words at a. -/
def spE (n a m : Int) : Int := if m < 0 then 2 else if a % 4 ≠ 0 then 51 else if n < a ∨ (n - a) / 4 < m then 50 else 0
theorem thE_ok {n a m : Int} (h : thE n a m = 0) : (m = 1 ∨ m = 4) ∧ a + m ≤ n := by
  unfold thE at h; repeat (split at h <;> try omega)
theorem spE_ok {n a m : Int} (h : spE n a m = 0) : 0 ≤ m ∧ a % 4 = 0 ∧ a ≤ n ∧ a + 4 * m ≤ n := by
  unfold spE at h; repeat (split at h <;> try omega)
/-- What a Put of words makes of the bytes. -/
def ptB (f : Nat → Int) (a : Nat) (g : Nat → Int) : Nat → Nat → Int
  | 0 => f
  | k + 1 => stB (ptB f a g k) (a + 4 * k) 4 (g k)
theorem ptB_bytes {f : Nat → Int} (h : Bytes f) (a : Nat) (g : Nat → Int) : ∀ k, Bytes (ptB f a g k)
  | 0 => h
  | k + 1 => stB_bytes (ptB_bytes h a g k) _ _ _
/-! A row of numbers of one kind, as a list of cells. -/
def bsL (k : IntKind) (f : Nat → Int) (n : Nat) : List Value := (List.range n).map fun i => .int k (f i)
theorem bsL_len (k : IntKind) (f : Nat → Int) (n : Nat) : (bsL k f n).length = n := by simp [bsL]
theorem bsL_get (k : IntKind) (f : Nat → Int) {n i : Nat} (h : i < n) : (bsL k f n)[i]? = some (.int k (f i)) := by simp [bsL, h]
theorem bsL_succ (k : IntKind) (f : Nat → Int) (n : Nat) : bsL k f (n + 1) = bsL k f n ++ [.int k (f n)] := by simp [bsL, List.range_succ]
theorem bsL_set (k : IntKind) (f : Nat → Int) (n j : Nat) (v : Int) : (bsL k f n).set j (.int k v) = bsL k (updB f j v) n := by
  apply List.ext_getElem?
  intro i
  rw [List.getElem?_set]
  by_cases hi : i < n
  · rw [bsL_get k _ hi, bsL_len, bsL_get k _ hi]
    unfold updB
    by_cases e : j = i
    · subst e; simp [hi]
    · rw [if_neg e, if_neg (fun h => e h.symm)]
  · rw [List.getElem?_eq_none (by rw [bsL_len]; omega), List.getElem?_eq_none (by rw [bsL_len]; omega)]
    split
    · rw [bsL_len, if_neg (by omega)]
    · rfl
theorem bsL_one (k : IntKind) (f : Nat → Int) (n : Nat) : ∀ u ∈ bsL k f n, u.oneCell' = true := by
  intro u hu
  simp only [bsL, List.mem_map] at hu
  obtain ⟨i, _, rfl⟩ := hu
  rfl
end Go.Proofs.YtmpagjijjahohaaGreatDoor
namespace Go.Proofs.YtmpagjijjahohaaGreatDoor.I2
open Go.RowKit

/-- The Ops with Rd, Rs1 and a second one; with Rs1 and a second one; whose word has 21 bits of a number. -/
def Ka (o : Int) : Prop := (1 ≤ o ∧ o ≤ 14) ∨ (19 ≤ o ∧ o ≤ 25)
def Kb (o : Int) : Prop := o = 16 ∨ o = 27 ∨ o = 29
def Wd (o : Int) : Prop := o = 15 ∨ o = 17 ∨ o = 18
/-- Which instructions with a number may be. -/
def MayT (o d s t n : Int) : Prop :=
  t = 0 ∧ ((Ka o ∧ d ≤ 31 ∧ s ≤ 31 ∧ -16384 ≤ n ∧ n ≤ 16383) ∨ (Kb o ∧ d = 0 ∧ s ≤ 31 ∧ -16384 ≤ n ∧ n ≤ 16383)
    ∨ (o = 15 ∧ d ≤ 31 ∧ s = 0 ∧ 0 ≤ n ∧ n ≤ 2097151) ∨ (o = 17 ∧ d ≤ 6 ∧ s = 0 ∧ -1048576 ≤ n ∧ n ≤ 1048575) ∨ (o = 18 ∧ d = 0 ∧ s = 0 ∧ -1048576 ≤ n ∧ n ≤ 1048575)
    ∨ (o = 30 ∧ d ≤ 31 ∧ s = 0 ∧ 0 ≤ n ∧ n ≤ 1) ∨ (o = 31 ∧ d = 0 ∧ s ≤ 31 ∧ 0 ≤ n ∧ n ≤ 1) ∨ (o = 33 ∧ d = 0 ∧ s = 0 ∧ 3 ≤ n ∧ n ≤ 4) ∨ (o = 37 ∧ d = 0 ∧ s = 0 ∧ 1 ≤ n ∧ n ≤ 3))
/-- Which instructions without a number may be. -/
def MayF (o d s t n : Int) : Prop :=
  n = 0 ∧ ((Ka o ∧ d ≤ 31 ∧ s ≤ 31 ∧ t ≤ 31) ∨ (Kb o ∧ d = 0 ∧ s ≤ 31 ∧ t ≤ 31) ∨ ((o = 26 ∨ o = 28 ∨ o = 34) ∧ d ≤ 31 ∧ s = 0 ∧ t = 0)
    ∨ ((o = 35 ∨ o = 36) ∧ d = 0 ∧ s ≤ 31 ∧ t = 0) ∨ (o = 32 ∧ d = 0 ∧ s = 0 ∧ t = 0))
instance (o : Int) : Decidable (Ka o) := by unfold Ka; infer_instance
instance (o : Int) : Decidable (Kb o) := by unfold Kb; infer_instance
instance (o : Int) : Decidable (Wd o) := by unfold Wd; infer_instance
instance (o d s t n : Int) : Decidable (MayT o d s t n) := by unfold MayT; infer_instance
instance (o d s t n : Int) : Decidable (MayF o d s t n) := by unfold MayF; infer_instance
def may (o d s t : Int) (b : Bool) (n : Int) : Bool := if b then decide (MayT o d s t n) else decide (MayF o d s t n)
theorem may_t (o d s t n : Int) : may o d s t true n = decide (MayT o d s t n) := rfl
theorem may_f (o d s t n : Int) : may o d s t false n = decide (MayF o d s t n) := rfl

/-- An instruction's word. -/
def enc (o d s t : Int) (b : Bool) (n : Int) : Int :=
  if Wd o then o * 67108864 + d * 2097152 + n % 2097152
  else if b then o * 67108864 + d * 2097152 + s * 65536 + 32768 + n % 32768
  else o * 67108864 + d * 2097152 + s * 65536 + t
/-- What is answered: the word or 0, and the error's number. -/
def eW (o d s t : Int) (b : Bool) (n : Int) : Int := if may o d s t b n then enc o d s t b n else 0
def eE (o d s t : Int) (b : Bool) (n : Int) : Int := if may o d s t b n then 0 else 2
theorem eW_yes {o d s t : Int} {b : Bool} {n : Int} (h : may o d s t b n = true) : eW o d s t b n = enc o d s t b n := by unfold eW; rw [if_pos h]
theorem eE_yes {o d s t : Int} {b : Bool} {n : Int} (h : may o d s t b n = true) : eE o d s t b n = 0 := by unfold eE; rw [if_pos h]
theorem eW_no {o d s t : Int} {b : Bool} {n : Int} (h : may o d s t b n = false) : eW o d s t b n = 0 := by unfold eW; rw [if_neg (by simp [h])]
theorem eE_no {o d s t : Int} {b : Bool} {n : Int} (h : may o d s t b n = false) : eE o d s t b n = 2 := by unfold eE; rw [if_neg (by simp [h])]

/-- What a word may be the word of. -/
def cO (w : Int) : Int := w / 67108864
def cD (w : Int) : Int := w / 2097152 % 32
def cS (w : Int) : Int := if Wd (cO w) then 0 else w / 65536 % 32
def cB (w : Int) : Bool := decide (Wd (cO w)) || w / 32768 % 2 == 1
def cT (w : Int) : Int := if Wd (cO w) then 0 else if w / 32768 % 2 == 1 then 0 else w % 32
/-- A number of 21 or 15 bits, with its sign. -/
def sg (p h : Int) : Int := if h ≤ p then p - 2 * h else p
def cN (w : Int) : Int := if Wd (cO w) then (if cO w = 15 then w % 2097152 else sg (w % 2097152) 1048576) else if w / 32768 % 2 == 1 then sg (w % 32768) 16384 else 0
def cM (w : Int) : Bool := may (cO w) (cD w) (cS w) (cT w) (cB w) (cN w)
def cE (w : Int) : Int := enc (cO w) (cD w) (cS w) (cT w) (cB w) (cN w)
/-- Whether a word is an instruction's, and which. -/
def dk (w : Int) : Bool := cM w && cE w == w
def dO (w : Int) : Int := if dk w then cO w else 0
def dD (w : Int) : Int := if dk w then cD w else 0
def dS (w : Int) : Int := if dk w then cS w else 0
def dT (w : Int) : Int := if dk w then cT w else 0
def dB (w : Int) : Bool := dk w && cB w
def dN (w : Int) : Int := if dk w then cN w else 0

theorem enc_bd {o d s t : Int} {b : Bool} {n : Int} (ho : 0 ≤ o ∧ o ≤ 255) (hd : 0 ≤ d ∧ d ≤ 255) (hs : 0 ≤ s ∧ s ≤ 255) (ht : 0 ≤ t ∧ t ≤ 255) (h : may o d s t b n = true) : 0 < enc o d s t b n ∧ enc o d s t b n < 4294967296 := by
  cases b
  · have h' : MayF o d s t n := of_decide_eq_true h
    unfold MayF Ka Kb at h'
    unfold enc
    split
    · omega
    · rw [if_neg (by decide)]; omega
  · have h' : MayT o d s t n := of_decide_eq_true h
    unfold MayT Ka Kb at h'
    unfold enc
    split
    · omega
    · rw [if_pos rfl]; omega
theorem eW_bd {o d s t : Int} {b : Bool} {n : Int} (ho : 0 ≤ o ∧ o ≤ 255) (hd : 0 ≤ d ∧ d ≤ 255) (hs : 0 ≤ s ∧ s ≤ 255) (ht : 0 ≤ t ∧ t ≤ 255) : 0 ≤ eW o d s t b n ∧ eW o d s t b n < 4294967296 := by
  cases h : may o d s t b n
  · rw [eW_no h]; omega
  · rw [eW_yes h]; have := enc_bd ho hd hs ht h; omega

/-- THERE AND BACK: of an instruction's word the parts are the instruction's. -/
theorem parts_enc {o d s t : Int} {b : Bool} {n : Int} (ho : 0 ≤ o ∧ o ≤ 255) (hd : 0 ≤ d ∧ d ≤ 255) (hs : 0 ≤ s ∧ s ≤ 255) (ht : 0 ≤ t ∧ t ≤ 255) (h : may o d s t b n = true) :
    cO (enc o d s t b n) = o ∧ cD (enc o d s t b n) = d ∧ cS (enc o d s t b n) = s ∧ cT (enc o d s t b n) = t ∧ cB (enc o d s t b n) = b ∧ cN (enc o d s t b n) = n := by
  cases b
  · have h' : MayF o d s t n := of_decide_eq_true h
    unfold MayF Ka Kb at h'
    have nw : ¬ Wd o := by unfold Wd; omega
    have e : enc o d s t false n = o * 67108864 + d * 2097152 + s * 65536 + t := by unfold enc; rw [if_neg nw, if_neg (by decide)]
    rw [e]
    have eO : cO (o * 67108864 + d * 2097152 + s * 65536 + t) = o := by unfold cO; omega
    have e15 : ((o * 67108864 + d * 2097152 + s * 65536 + t) / 32768 % 2 == 1) = false := by simp; omega
    refine ⟨eO, ?_, ?_, ?_, ?_, ?_⟩
    · unfold cD; omega
    · unfold cS; rw [eO, if_neg nw]; omega
    · unfold cT; rw [eO, if_neg nw, e15]; simp; omega
    · unfold cB; rw [eO, e15]; simp [nw]
    · unfold cN; rw [eO, if_neg nw, e15]; simp; omega
  · have h' : MayT o d s t n := of_decide_eq_true h
    unfold MayT Ka Kb at h'
    by_cases w : Wd o
    · have e : enc o d s t true n = o * 67108864 + d * 2097152 + n % 2097152 := by unfold enc; rw [if_pos w]
      rw [e]
      have w' := w
      unfold Wd at w'
      have eO : cO (o * 67108864 + d * 2097152 + n % 2097152) = o := by unfold cO; omega
      refine ⟨eO, ?_, ?_, ?_, ?_, ?_⟩
      · unfold cD; omega
      · unfold cS; rw [eO, if_pos w]; omega
      · unfold cT; rw [eO, if_pos w]; omega
      · unfold cB; rw [eO]; simp [w]
      · unfold cN; rw [eO, if_pos w]
        split
        · omega
        · unfold sg; split <;> omega
    · have e : enc o d s t true n = o * 67108864 + d * 2097152 + s * 65536 + 32768 + n % 32768 := by unfold enc; rw [if_neg w, if_pos rfl]
      rw [e]
      unfold Wd at w
      have eO : cO (o * 67108864 + d * 2097152 + s * 65536 + 32768 + n % 32768) = o := by unfold cO; omega
      have nw : ¬ Wd o := by unfold Wd; omega
      have e15 : ((o * 67108864 + d * 2097152 + s * 65536 + 32768 + n % 32768) / 32768 % 2 == 1) = true := by simp; omega
      refine ⟨eO, ?_, ?_, ?_, ?_, ?_⟩
      · unfold cD; omega
      · unfold cS; rw [eO, if_neg nw]; omega
      · unfold cT; rw [eO, if_neg nw, e15]; simp; omega
      · unfold cB; rw [eO, e15]; simp
      · unfold cN; rw [eO, if_neg nw, e15, if_pos rfl]; unfold sg; split <;> omega
theorem back_enc {o d s t : Int} {b : Bool} {n : Int} (ho : 0 ≤ o ∧ o ≤ 255) (hd : 0 ≤ d ∧ d ≤ 255) (hs : 0 ≤ s ∧ s ≤ 255) (ht : 0 ≤ t ∧ t ≤ 255) (h : may o d s t b n = true) :
    dk (enc o d s t b n) = true ∧ dO (enc o d s t b n) = o ∧ dD (enc o d s t b n) = d ∧ dS (enc o d s t b n) = s ∧ dT (enc o d s t b n) = t ∧ dB (enc o d s t b n) = b ∧ dN (enc o d s t b n) = n := by
  obtain ⟨e1, e2, e3, e4, e5, e6⟩ := parts_enc ho hd hs ht h
  have k : dk (enc o d s t b n) = true := by
    unfold dk cM cE
    rw [e1, e2, e3, e4, e5, e6, h]
    simp
  unfold dO dD dS dT dB dN
  rw [k, e1, e2, e3, e4, e5, e6]
  simp
/-- Words of instructions that are not the same are not the same. -/
theorem enc_inj {o d s t : Int} {b : Bool} {n : Int} {o' d' s' t' : Int} {b' : Bool} {n' : Int} (ho : 0 ≤ o ∧ o ≤ 255) (hd : 0 ≤ d ∧ d ≤ 255) (hs : 0 ≤ s ∧ s ≤ 255) (ht : 0 ≤ t ∧ t ≤ 255) (h : may o d s t b n = true)
    (ho' : 0 ≤ o' ∧ o' ≤ 255) (hd' : 0 ≤ d' ∧ d' ≤ 255) (hs' : 0 ≤ s' ∧ s' ≤ 255) (ht' : 0 ≤ t' ∧ t' ≤ 255) (h' : may o' d' s' t' b' n' = true) (e : enc o d s t b n = enc o' d' s' t' b' n') :
    o = o' ∧ d = d' ∧ s = s' ∧ t = t' ∧ b = b' ∧ n = n' := by
  obtain ⟨e1, e2, e3, e4, e5, e6⟩ := parts_enc ho hd hs ht h
  obtain ⟨f1, f2, f3, f4, f5, f6⟩ := parts_enc ho' hd' hs' ht' h'
  rw [← e] at f1 f2 f3 f4 f5 f6
  exact ⟨e1.symm.trans f1, e2.symm.trans f2, e3.symm.trans f3, e4.symm.trans f4, e5.symm.trans f5, e6.symm.trans f6⟩
theorem c_bd {w : Int} (h : 0 ≤ w ∧ w < 4294967296) : (0 ≤ cO w ∧ cO w ≤ 255) ∧ (0 ≤ cD w ∧ cD w ≤ 255) ∧ (0 ≤ cS w ∧ cS w ≤ 255) ∧ (0 ≤ cT w ∧ cT w ≤ 255) := by
  refine ⟨?_, ?_, ?_, ?_⟩
  · unfold cO; omega
  · unfold cD; omega
  · unfold cS; split <;> omega
  · unfold cT; split
    · omega
    · split <;> omega
end Go.Proofs.YtmpagjijjahohaaGreatDoor.I2
namespace Go.Proofs.YtmpagjijjahohaaGreatDoor.F3

/-- The place of a register among a file's words: the windows, sixteen words each, then the banks, eight words each. -/
def loc (n win bank reg : Int) : Nat :=
  (if reg < 8 then 512 + 8 * bank + reg else if reg < 16 then 16 * (if win = 0 then n - 1 else win - 1) + reg else 16 * win + reg - 16).toNat
/-- Which numbers a register may be called by. -/
def Named (n win bank reg : Int) : Prop := 0 ≤ win ∧ win < n ∧ 0 ≤ bank ∧ bank < 17 ∧ 0 ≤ reg ∧ reg < 32
theorem loc_lt {n win bank reg : Int} (hn : n ≤ 32) (h : Named n win bank reg) : loc n win bank reg < 648 := by
  obtain ⟨h1, h2, h3, h4, h5, h6⟩ := h
  unfold loc
  split
  · omega
  · split
    · split <;> omega
    · omega
theorem loc_global {n win bank reg : Int} (h : reg < 8) : loc n win bank reg = (512 + 8 * bank + reg).toNat := by unfold loc; rw [if_pos h]
theorem loc_out0 {n bank reg : Int} (h : 8 ≤ reg) (h' : reg < 16) : loc n 0 bank reg = (16 * (n - 1) + reg).toNat := by
  unfold loc; rw [if_neg (by omega), if_pos h', if_pos rfl]
theorem loc_out {n win bank reg : Int} (h : 8 ≤ reg) (h' : reg < 16) (hw : win ≠ 0) : loc n win bank reg = (16 * (win - 1) + reg).toNat := by
  unfold loc; rw [if_neg (by omega), if_pos h', if_neg hw]
theorem loc_own {n win bank reg : Int} (h : 16 ≤ reg) : loc n win bank reg = (16 * win + reg - 16).toNat := by
  unfold loc; rw [if_neg (by omega), if_neg (by omega)]

/-- A word of a file's words, set. -/
def upd (R : Nat → Int) (j : Nat) (v : Int) : Nat → Int := fun i => if i = j then v else R i
theorem upd_same (R : Nat → Int) (j : Nat) (v : Int) : upd R j v j = v := by simp [upd]
theorem upd_ne (R : Nat → Int) {i j : Nat} (v : Int) (h : i ≠ j) : upd R j v i = R i := by simp [upd, h]
/-- What a Set makes of a file's words: g0 stays. -/
def setR (R : Nat → Int) (n win bank reg v : Int) : Nat → Int := if reg = 0 then R else upd R (loc n win bank reg) v
/-- What a Put makes of them. -/
def putR (R : Nat → Int) (win : Int) (X : List Int) : Nat → Int := fun j => if (16 * win).toNat ≤ j ∧ j < (16 * win).toNat + 16 then X.getD (j - (16 * win).toNat) 0 else R j

/-! The document's file: a list of all that was set. -/
abbrev Cel := Int × Int × Int
abbrev Ent := Cel × Int
def cellOf (j : Nat) : Cel := if j < 512 then (if j % 16 < 8 then (1, (j / 16 : Nat), (j % 16 : Nat)) else (2, (j / 16 : Nat), (j % 16 : Nat) - 8)) else (0, ((j - 512) / 8 : Nat), ((j - 512) % 8 : Nat))
def place (n win bank reg : Int) : Cel :=
  if reg < 8 then (0, bank, reg) else if reg < 16 then (2, (win + n - 1) % n, reg - 8) else if reg < 24 then (1, win, reg - 16) else (2, win, reg - 24)
def lastW (l : List Ent) (c : Cel) : Int := l.foldl (fun a e => if e.1 = c then e.2 else a) 0
def atL (l : List Ent) (c : Cel) : Int := if c.1 = 0 ∧ c.2.2 = 0 then 0 else lastW l c
theorem lastW_snoc (l : List Ent) (e : Ent) (c : Cel) : lastW (l ++ [e]) c = if e.1 = c then e.2 else lastW l c := by simp [lastW, List.foldl_append]
theorem before_mod {n win : Int} (h0 : 0 ≤ win) (h1 : win < n) : (win + n - 1) % n = if win = 0 then n - 1 else win - 1 := by
  split
  · subst win; rw [Int.emod_eq_of_lt (by omega) (by omega)]; omega
  · rw [show win + n - 1 = (win - 1) + n by omega, Int.add_emod_right, Int.emod_eq_of_lt (by omega) (by omega)]
theorem cellOf_loc {n win bank reg : Int} (hn : n ≤ 32) (h : Named n win bank reg) : cellOf (loc n win bank reg) = place n win bank reg := by
  obtain ⟨h1, h2, h3, h4, h5, h6⟩ := h
  unfold place
  rw [before_mod h1 h2]
  unfold loc cellOf
  by_cases a : reg < 8
  · rw [if_pos a, if_pos a, if_neg (by omega)]; refine Prod.ext rfl (Prod.ext ?_ ?_) <;> simp only <;> omega
  rw [if_neg a, if_neg a]
  by_cases b : reg < 16
  · rw [if_pos b, if_pos b]
    split <;> (rw [if_pos (by omega), if_neg (by omega)]; refine Prod.ext rfl (Prod.ext ?_ ?_) <;> simp only <;> omega)
  rw [if_neg b, if_neg b, if_pos (by omega)]
  by_cases c : reg < 24
  · rw [if_pos c, if_pos (by omega)]; refine Prod.ext rfl (Prod.ext ?_ ?_) <;> simp only <;> omega
  · rw [if_neg c, if_neg (by omega)]; refine Prod.ext rfl (Prod.ext ?_ ?_) <;> simp only <;> omega
theorem cellOf_inj {i j : Nat} (hi : i < 648) (hj : j < 648) (h : cellOf i = cellOf j) : i = j := by
  unfold cellOf at h
  have h1 := congrArg Prod.fst h
  have h2 := congrArg (fun x => x.2.1) h
  have h3 := congrArg (fun x => x.2.2) h
  clear h
  split at h1 <;> split at h1 <;> (try split at h1) <;> (try split at h1) <;> (first | (exact absurd h1 (by decide)) | skip) <;> simp_all <;> omega
/-- The two keep step: each word is what the list says of it. -/
def Step (R : Nat → Int) (l : List Ent) : Prop := ∀ j, j < 648 → R j = atL l (cellOf j)
theorem step_new : Step (fun _ => 0) [] := fun j _ => by simp [atL, lastW]
theorem cellOf_g0 {j : Nat} (hj : j < 648) : ((cellOf j).1 = 0 ∧ (cellOf j).2.2 = 0) ↔ (512 ≤ j ∧ (j - 512) % 8 = 0) := by
  unfold cellOf
  split
  · split <;> simp <;> omega
  · simp; omega
theorem step_upd {R : Nat → Int} {l : List Ent} (h : Step R l) {k : Nat} (hk : k < 648) (h0 : ¬ (512 ≤ k ∧ (k - 512) % 8 = 0)) (v : Int) : Step (upd R k v) (l ++ [(cellOf k, v)]) := fun j hj => by
  have hj' := h j hj
  unfold atL at hj' ⊢
  by_cases e : j = k
  · subst e
    rw [upd_same, if_neg (fun hh => h0 ((cellOf_g0 hj).1 hh)), lastW_snoc, if_pos rfl]
  · rw [upd_ne R v e, hj', lastW_snoc, if_neg (fun hh => e (cellOf_inj hk hj hh).symm)]
theorem step_g0 {R : Nat → Int} {l : List Ent} (h : Step R l) {k : Nat} (hk : k < 648) (h0 : 512 ≤ k ∧ (k - 512) % 8 = 0) (v : Int) : Step R (l ++ [(cellOf k, v)]) := fun j hj => by
  have hj' := h j hj
  unfold atL at hj' ⊢
  by_cases e : (cellOf j).1 = 0 ∧ (cellOf j).2.2 = 0
  · rw [if_pos e] at hj' ⊢; exact hj'
  · rw [if_neg e] at hj' ⊢
    rw [lastW_snoc, if_neg (fun hh => e ?_)]; · exact hj'
    rw [← hh]; exact (cellOf_g0 hk).2 h0
/-- After a Set they do. -/
theorem step_set {R : Nat → Int} {l : List Ent} (h : Step R l) {n win bank reg : Int} (hn : n ≤ 32) (hm : Named n win bank reg) (v : Int) : Step (setR R n win bank reg v) (l ++ [(place n win bank reg, v)]) := by
  rw [← cellOf_loc hn hm]
  have hk := loc_lt hn hm
  unfold setR
  split
  · rename_i e
    refine step_g0 h hk ?_ v
    obtain ⟨h1, h2, h3, h4, h5, h6⟩ := hm
    rw [loc_global (by omega)]; omega
  · rename_i e
    refine step_upd h hk ?_ v
    obtain ⟨h1, h2, h3, h4, h5, h6⟩ := hm
    unfold loc
    split
    · omega
    · split
      · split <;> omega
      · omega
/-- The entries that a Put of k words makes. -/
def ents (win : Int) (X : List Int) (k : Nat) : List Ent := (List.range k).map fun i => (cellOf ((16 * win).toNat + i), X.getD i 0)
theorem ents_succ (win : Int) (X : List Int) (k : Nat) : ents win X (k + 1) = ents win X k ++ [(cellOf ((16 * win).toNat + k), X.getD k 0)] := by simp [ents, List.range_succ]
def putK (R : Nat → Int) (win : Int) (X : List Int) (k : Nat) : Nat → Int := fun j => if (16 * win).toNat ≤ j ∧ j < (16 * win).toNat + k then X.getD (j - (16 * win).toNat) 0 else R j
theorem step_putK {R : Nat → Int} {l : List Ent} (h : Step R l) {win : Int} (h0 : 0 ≤ win) (h1 : win < 32) (X : List Int) : ∀ k, k ≤ 16 → Step (putK R win X k) (l ++ ents win X k)
  | 0, _ => by
    have e : putK R win X 0 = R := by funext j; unfold putK; rw [if_neg (by omega)]
    rw [e]; simpa [ents] using h
  | k + 1, hk => by
    have ih := step_putK h h0 h1 X k (by omega)
    have := step_upd ih (k := (16 * win).toNat + k) (by omega) (by omega) (X.getD k 0)
    rw [ents_succ, ← List.append_assoc]
    have e : putK R win X (k + 1) = upd (putK R win X k) ((16 * win).toNat + k) (X.getD k 0) := by
      funext j
      unfold putK upd
      by_cases e : j = (16 * win).toNat + k
      · subst e; rw [if_pos rfl, if_pos (by omega), show (16 * win).toNat + k - (16 * win).toNat = k by omega]
      · rw [if_neg e]
        show (if _ then _ else _) = (if _ then _ else _)
        by_cases c : (16 * win).toNat ≤ j ∧ j < (16 * win).toNat + k
        · rw [if_pos c, if_pos (by omega)]
        · rw [if_neg c, if_neg (by omega)]
    rw [e]; exact this
theorem step_put {R : Nat → Int} {l : List Ent} (h : Step R l) {win : Int} (h0 : 0 ≤ win) (h1 : win < 32) (X : List Int) : Step (putR R win X) (l ++ ents win X 16) := step_putK h h0 h1 X 16 (Nat.le_refl _)
theorem place_put {n win : Int} (h0 : 0 ≤ win) (h1 : win < n) (hn : n ≤ 32) {k : Nat} (hk : k < 16) : place n win 0 (16 + k) = cellOf ((16 * win).toNat + k) := by
  rw [← cellOf_loc hn ⟨h0, h1, by omega, by omega, by omega, by omega⟩, loc_own (by omega)]
  congr 1; omega
end Go.Proofs.YtmpagjijjahohaaGreatDoor.F3
namespace Go.Proofs.YtmpagjijjahohaaGreatDoor
open Go.RowKit
set_option linter.unusedVariables false
/-! What was there has not turned. -/
theorem bel_trans {a b c : World} (h : Below a.heap.size a b) (k : Below b.heap.size b c) : Below a.heap.size a c := h.trans (k.mono h.size)
theorem bel_heap {w w' : World} (h : Below w.heap.size w w') {b : Nat} {o : Obj} (hb : w.heap[b]? = some o) : w'.heap[b]? = some o := by
  have hlt : b < w.heap.size := by
    rcases Nat.lt_or_ge b w.heap.size with hh | hh
    · exact hh
    · rw [Array.getElem?_eq_none hh] at hb; cases hb
  rw [h.block b hlt]; exact hb
theorem bel_cell {w w' : World} (h : Below w.heap.size w w') {b j : Nat} {v : Value} (hc : w.cell? ⟨b, j, none⟩ = some v) : w'.cell? ⟨b, j, none⟩ = some v :=
  (h.cell (p := ⟨b, j, none⟩) (block_lt_of_cell hc)).trans hc
theorem bel_frozen {w w' : World} (h : Below w.heap.size w w') {b j k : Nat} {v : Value} (hc : w.cell? ⟨b, k, none⟩ = some v) (hf : w.frozen? ⟨b, j, none⟩ = false) : w'.frozen? ⟨b, j, none⟩ = false :=
  (h.frozen (p := ⟨b, j, none⟩) (block_lt_of_cell (a := ⟨b, k, none⟩) hc)).trans hf
theorem bel_row {w : World} {A : Array Value} {t : TypeId} : ∀ {w' : World}, Below (w.alloc (.cells A t)).heap.size (w.alloc (.cells A t)) w' → w'.heap[w.heap.size]? = some (.cells A t (0, 0)) := fun h => bel_heap h (heap_alloc_last _ _)
/-- One old block may have turned. -/
theorem only_bel {a w w' : World} {b : Nat} (h : Below a.heap.size a w) (k : w.grownBy w' (some b)) (hb : a.heap.size ≤ b) : Below a.heap.size a w' :=
  h.grown k h.size (fun k e => by cases e; exact hb)
theorem bel_only {w w' : World} (h : Below w.heap.size w w') (b : Nat) : w.grownBy w' (some b) := ⟨h.os, h.tape, h.output, h.size, fun i hi _ => h.block i hi⟩
theorem only_trans {b : Nat} {u v w : World} (h : u.grownBy v (some b)) (k : v.grownBy w (some b)) : u.grownBy w (some b) :=
  ⟨k.os.trans h.os, k.tape.trans h.tape, k.output.trans h.output, Nat.le_trans h.size k.size, fun i hi hn => (k.block i (Nat.lt_of_lt_of_le hi h.size) hn).trans (h.block i hi hn)⟩
theorem only_cell {u w : World} {b : Nat} (h : u.grownBy w (some b)) (o : Nat) (v : Value) : u.grownBy (w.setCell ⟨b, o, none⟩ v) (some b) :=
  only_trans h ⟨rfl, rfl, rfl, by simp [World.setCell], fun i _ hn => Below.heap_setCell _ _ _ _ (fun e => hn (by rw [e]))⟩
theorem only_heap {w w' : World} {b x : Nat} (h : w.grownBy w' (some b)) (hx : x ≠ b) {o : Obj} (hb : w.heap[x]? = some o) : w'.heap[x]? = some o := by
  have hlt : x < w.heap.size := by
    rcases Nat.lt_or_ge x w.heap.size with hh | hh
    · exact hh
    · rw [Array.getElem?_eq_none hh] at hb; cases hb
  rw [h.block x hlt (fun e => hx (by cases e; rfl))]; exact hb
theorem only_row {w w' : World} {b g : Nat} {A : Array Value} (h : w.grownBy w' (some b)) (hg : b = g) : w.grownBy (w'.setRow g A) (some b) := by
  subst hg
  exact only_trans h ⟨rfl, rfl, rfl, by simp, fun i _ hn => setRow_other w' b i A (fun e => hn (by rw [e]))⟩

theorem bel_drewN {B : Nat} {a w : World} (h : Below B a w) (n : Nat) : Below B a (w.drewN n) := ⟨h.os, h.tape, h.output, h.size, h.block⟩
theorem add_at (b o j : Nat) : (⟨b, o, none⟩ : Addr).add j = ⟨b, o + j, none⟩ := by unfold Addr.add; split <;> simp_all
theorem one_new (w : World) (x : Value) (t : TypeId) : ∀ j u, [x][j]? = some u → (w.alloc (.cells #[x] t)).cell? ((⟨w.heap.size, 0, none⟩ : Addr).add j) = some u := by
  intro j u h
  cases j with
  | zero => rw [add_at, cell_of_row _ _ _ _ _ _ (heap_alloc_last _ _)]; simpa using h
  | succ j => simp at h
theorem only_none {w w' : World} {s : Value} {B : Nat} {a : World} (h : Below B a w) (k : w.grownBy w' s.ownBlock) (hB : B ≤ w.heap.size) (hs : ∀ j, s.ownBlock = some j → B ≤ j) : Below B a w' := h.grown k hB hs
theorem cell_other {w : World} {b c i j : Nat} {v : Value} (h : b ≠ c) : (w.setCell ⟨c, j, none⟩ v).cell? ⟨b, i, none⟩ = w.cell? ⟨b, i, none⟩ := World.cell?_setCell_other _ _ _ _ (fun e => h (by injection e with e1; exact e1.symm))
theorem cell_off {w : World} {b c i j : Nat} {v : Value} (h : i ≠ j) : (w.setCell ⟨c, j, none⟩ v).cell? ⟨b, i, none⟩ = w.cell? ⟨b, i, none⟩ := World.cell?_setCell_other _ _ _ _ (fun e => h (by injection e with _ e2; exact e2.symm))
/-! A block that is new, and stays. -/
theorem row_born {w : World} {A : Array Value} {t : TypeId} {b : Nat} (h : w.heap.size = b) : (w.alloc (.cells A t)).heap[b]? = some (.cells A t (0, 0)) := h ▸ heap_alloc_last _ _
theorem row_alloc {w : World} {o o' : Obj} {b : Nat} (h : w.heap[b]? = some o) : (w.alloc o').heap[b]? = some o := bel_heap ((Below.refl _ _).alloc (Nat.le_refl _) _) h
theorem row_cell {w : World} {A : Array Value} {t : TypeId} {b j : Nat} {v : Value} (h : w.heap[b]? = some (.cells A t (0, 0))) (hv : A[j]? = some v) : w.cell? ⟨b, j, none⟩ = some v := (cell_of_row _ _ _ _ _ _ h).trans hv
theorem row_frozen {w : World} {A : Array Value} {t : TypeId} {b j : Nat} (h : w.heap[b]? = some (.cells A t (0, 0))) : w.frozen? ⟨b, j, none⟩ = false := frozen_of_row _ _ _ _ _ h
end Go.Proofs.YtmpagjijjahohaaGreatDoor
namespace Go.Proofs.YtmpagjijjahohaaGreatDoor
open Go.RowKit
/-- Four cells of a block, all written. -/
theorem put4_row {W : World} {z : Nat} {x0 x1 x2 x3 y0 y1 y2 y3 : Value} {t : TypeId} (h : W.heap[z]? = some (.cells #[x0, x1, x2, x3] t (0, 0))) :
    ((((W.setCell ⟨z, 0, none⟩ y0).setCell ⟨z, 1, none⟩ y1).setCell ⟨z, 2, none⟩ y2).setCell ⟨z, 3, none⟩ y3).heap[z]? = some (.cells #[y0, y1, y2, y3] t (0, 0)) := by
  simp [World.setCell, Array.getElem?_modify, h]
theorem put4_bel {a W : World} {z : Nat} {y0 y1 y2 y3 : Value} (h : Below a.heap.size a W) (hz : a.heap.size ≤ z) : Below a.heap.size a ((((W.setCell ⟨z, 0, none⟩ y0).setCell ⟨z, 1, none⟩ y1).setCell ⟨z, 2, none⟩ y2).setCell ⟨z, 3, none⟩ y3) :=
  (((h.setCell (p := ⟨z, 0, none⟩) hz _).setCell (p := ⟨z, 1, none⟩) hz _).setCell (p := ⟨z, 2, none⟩) hz _).setCell (p := ⟨z, 3, none⟩) hz _
theorem row_put4 {W : World} {z b : Nat} {y0 y1 y2 y3 : Value} {o : Obj} (h : W.heap[b]? = some o) (hz : b ≠ z) : ((((W.setCell ⟨z, 0, none⟩ y0).setCell ⟨z, 1, none⟩ y1).setCell ⟨z, 2, none⟩ y2).setCell ⟨z, 3, none⟩ y3).heap[b]? = some o := by
  rw [Below.heap_setCell _ _ _ _ hz, Below.heap_setCell _ _ _ _ hz, Below.heap_setCell _ _ _ _ hz, Below.heap_setCell _ _ _ _ hz]; exact h
/-- What a block of four cells gives the walk. -/
theorem four_at {W : World} {z : Nat} {x0 x1 x2 x3 : Value} {t : TypeId} (h : W.heap[z]? = some (.cells #[x0, x1, x2, x3] t (0, 0))) :
    (W.cell? ⟨z, 0, none⟩ = some x0 ∧ W.cell? ⟨z, 1, none⟩ = some x1 ∧ W.cell? ⟨z, 2, none⟩ = some x2 ∧ W.cell? ⟨z, 3, none⟩ = some x3) ∧
    (W.frozen? ⟨z, 0, none⟩ = false ∧ W.frozen? ⟨z, 1, none⟩ = false ∧ W.frozen? ⟨z, 2, none⟩ = false ∧ W.frozen? ⟨z, 3, none⟩ = false) :=
  ⟨⟨row_cell h rfl, row_cell h rfl, row_cell h rfl, row_cell h rfl⟩, row_frozen h, row_frozen h, row_frozen h, row_frozen h⟩
end Go.Proofs.YtmpagjijjahohaaGreatDoor
namespace Go.Proofs.YtmpagjijjahohaaGreatDoor
open Go.RowKit
/-- The library's 'Grown', and 'Below' with it: so what is said by either goes on. (A name of one's own in the library's place; nothing that stands over it turns.) -/
def Grown (W w' : World) : Prop := W.keptBut w' (fun _ => False) ∧ (∀ a, w'.frozen? a = W.frozen? a) ∧ W.heap.size ≤ w'.heap.size ∧ Below W.heap.size W w'
theorem Grown.lib {W w' : World} (h : Grown W w') : RowKit.Grown W w' := ⟨h.1, h.2.1, h.2.2.1⟩
theorem Grown.bel {W w' : World} (h : Grown W w') : Below W.heap.size W w' := h.2.2.2
theorem Grown.refl (W : World) : Grown W W := ⟨World.keptBut_refl _ _, fun _ => rfl, Nat.le_refl _, Below.refl _ _⟩
theorem Grown.alloc {W w' : World} (h : Grown W w') (c : Array Value) (t : TypeId) : Grown W (w'.alloc (.cells c t)) :=
  let k := h.lib.alloc c t
  ⟨k.1, k.2.1, k.2.2, h.bel.alloc h.bel.size _⟩
theorem Grown.setCell {W w' : World} (h : Grown W w') {a : Addr} (ha : W.heap.size ≤ a.block) (v : Value) : Grown W (w'.setCell a v) :=
  let k := h.lib.setCell ha v
  ⟨k.1, k.2.1, k.2.2, h.bel.setCell ha v⟩
theorem Grown.drew {W w' : World} (h : Grown W w') : Grown W w'.drew := ⟨h.1, h.2.1, h.2.2.1, h.bel.drew⟩
theorem Grown.frame {W w' : World} (h : Grown W w') (may : MemPlace → Prop) : W.keptBut w' may := h.lib.frame may
theorem grown_trans {a b c : World} (h : Grown a b) (k : Grown b c) : Grown a c :=
  ⟨World.keptBut_trans h.1 k.1, fun x => (k.2.1 x).trans (h.2.1 x), Nat.le_trans h.2.2.1 k.2.2.1, h.bel.trans (k.bel.mono h.bel.size)⟩
theorem grown_cell {w w' : World} (h : Grown w w') {b j : Nat} {v : Value} (hc : w.cell? ⟨b, j, none⟩ = some v) : w'.cell? ⟨b, j, none⟩ = some v := by
  have hb : b < w.heap.size := block_lt_of_cell hc
  obtain ⟨⟨_, _, h3⟩, _, _, _⟩ := h
  have := h3 b hb
  unfold World.cell? at hc ⊢
  simp only at hc ⊢
  cases h1 : w.heap[b]? with
  | none => rw [h1] at hc; simp at hc
  | some o =>
    cases o with
    | cells c t fr =>
      rw [h1] at hc this
      cases h2 : w'.heap[b]? with
      | none => rw [h2] at this; simp at this
      | some o' =>
        rw [h2] at this
        cases o' with
        | cells c' t' fr' =>
          simp only at this hc ⊢
          have hj := this.2.2.2 j (by simp)
          simp only [Option.isSome_none] at hc ⊢
          simpa [hj] using hc
        | _ => simp at this
    | _ => rw [h1] at hc; simp at hc
/-! Data of types that lead nowhere (bools, integers, structs and arrays of them) read the same in any world. -/
def flatT (P : Program) : Nat → TypeId → Bool
  | 0, _ => false
  | n + 1, t =>
    match P.underlying t with
    | some .bool => true
    | some (.int _) => true
    | some (.struct fs) => fs.toList.all fun f => flatT P n f.type
    | some (.array _ e) => flatT P n e
    | _ => false
theorem mapM_congr {α β : Type} {f g : α → Option β} : ∀ {l : List α}, (∀ a, a ∈ l → f a = g a) → l.mapM f = l.mapM g
  | [], _ => rfl
  | x :: l, h => by
    simp only [List.mapM_cons]
    rw [h x (by simp), mapM_congr (fun a ha => h a (by simp [ha]))]
theorem trod_flat {H : Type} {enc enc' : TypeId × Value → H} {P : Program} {w w' : World} {b b' : Nat} {s s' : Nat → Bool} {k k' : Bool} :
    ∀ (n : Nat) (t : TypeId), flatT P n t = true → ∀ (fuel : Nat) (cs : List Value), DataW.trod enc P w b s k fuel t cs = DataW.trod enc' P w' b' s' k' fuel t cs
  | 0, _, h => by cases h
  | n + 1, t, h => fun fuel cs => by
    cases fuel with
    | zero => rfl
    | succ fuel =>
      unfold flatT at h
      unfold DataW.trod
      cases hu : P.underlying t with
      | none => rfl
      | some u =>
        rw [hu] at h
        cases u <;> first | (exact absurd h Bool.false_ne_true) | skip
        · cases cs with
          | nil => rfl
          | cons c r => cases c <;> cases r <;> rfl
        · cases cs with
          | nil => rfl
          | cons c r => cases c <;> cases r <;> rfl
        case struct fs =>
          have hf : ∀ f, f ∈ fs.toList → flatT P n f.type = true := List.all_eq_true.1 h
          simp only
          rw [mapM_congr (fun f hm => trod_flat n f.type (hf f hm) fuel _)]
        case array m e =>
          simp only
          rw [mapM_congr (fun i _ => trod_flat n e h fuel _)]
theorem trod_flat_at {H : Type} {enc enc' : TypeId × Value → H} {P : Program} {w w' : World} {b b' : Nat} {s s' : Nat → Bool} {k k' : Bool} {n : Nat} {t : TypeId} {v : Value} {d : DataW H} {p : List MemPlace}
    (hf : flatT P n t = true) (h : DataW.Trod enc P w b s k t v d p) : DataW.Trod enc' P w' b' s' k' t v d p := by
  obtain ⟨fuel, h⟩ := h
  exact ⟨fuel, (trod_flat n t hf fuel _).symm.trans h⟩
end Go.Proofs.YtmpagjijjahohaaGreatDoor
namespace Go.Proofs.YtmpagjijjahohaaGreatDoor
open Go.RowKit
theorem wp_region_class {J : Type} (F : J → World) {P : Program} {id : Nat} {Q : Exit → Act → World → Prop} {a : Act} {w : World} {l : List Oper} (hm : P.follows .mixedOrders = true) (hB : Region.lexB .any l.toArray = true)
    (hw : ∃ p, w.drew = F p) (h : wpQuiet P l.toArray (fun w' => ∃ p, w' = F p) (fun a' => ∀ w', (∃ p, w' = F p) → Q .normal a' w') l a) : (Code.region id l.toArray true).wp P Q a w :=
  wp_region_quiet (C := fun w' => ∃ p, w' = F p) hm hB hw (by simpa using h)
theorem cell_new (w : World) (A : Array Value) (t : TypeId) (j : Nat) : (w.alloc (.cells A t)).cell? ⟨w.heap.size, j, none⟩ = A[j]? := cell_of_row _ _ _ _ _ _ (heap_alloc_last _ _)
theorem size_new (w : World) (A : Array Value) (t : TypeId) : (w.alloc (.cells A t)).heap.size = w.heap.size + 1 := by simp
theorem cell_new_grown {w W : World} {A : Array Value} {t : TypeId} (g : Grown (w.alloc (.cells A t)) W) {j : Nat} {v : Value} (h : A[j]? = some v) : W.cell? ⟨w.heap.size, j, none⟩ = some v := grown_cell g ((cell_new w A t j).trans h)
end Go.Proofs.YtmpagjijjahohaaGreatDoor
namespace Go.Proofs.YtmpagjijjahohaaGreatDoor
open Go.RowKit
set_option linter.unusedVariables false
/-- A slice of n numbers: f says each by its place. -/
def Sl (k : IntKind) (w : World) (s : Value) (n : Nat) (f : Nat → Int) : Prop :=
  ∃ p c, s = .slice p n c ∧ (0 < n → ∃ b o, p = some ⟨b, o, none⟩ ∧ ∀ i, i < n → w.cell? ⟨b, o + i, none⟩ = some (.int k (f i)))
theorem Sl.bel {k : IntKind} {w w' : World} {s : Value} {n : Nat} {f : Nat → Int} (h : Sl k w s n f) (g : Below w.heap.size w w') : Sl k w' s n f := by
  obtain ⟨p, c, rfl, h⟩ := h
  exact ⟨p, c, rfl, fun hn => by obtain ⟨b, o, rfl, hc⟩ := h hn; exact ⟨b, o, rfl, fun i hi => bel_cell g (hc i hi)⟩⟩
theorem Sl.congr {k : IntKind} {w : World} {s : Value} {n : Nat} {f f' : Nat → Int} (h : Sl k w s n f) (e : ∀ i, i < n → f i = f' i) : Sl k w s n f' := by
  obtain ⟨p, c, rfl, h⟩ := h
  exact ⟨p, c, rfl, fun hn => by obtain ⟨b, o, rfl, hc⟩ := h hn; exact ⟨b, o, rfl, fun i hi => by rw [← e i hi]; exact hc i hi⟩⟩
theorem Sl.nil (k : IntKind) (w : World) (p : Option Addr) (c : Nat) (f : Nat → Int) : Sl k w (.slice p 0 c) 0 f := ⟨p, c, rfl, fun h => absurd h (by decide)⟩
/-- A slice of the call's own. -/
theorem own_sl {k : IntKind} {w : World} {B : Nat} {t : TypeId} {s : Value} {n : Nat} {f : Nat → Int} (h : w.ownsRow B t 1 s n (bsL k f n)) : Sl k w s n f := by
  obtain ⟨_, h | ⟨g, cap, cur, rfl, hB, hg, h1, h2, h3, h4⟩⟩ := h
  · obtain ⟨rfl, rfl⟩ := h; exact Sl.nil _ _ _ _ _
  · refine ⟨_, cap, rfl, fun _ => ⟨g, 0, rfl, fun i hi => ?_⟩⟩
    rw [Nat.zero_add, cell_of_row _ _ _ _ _ _ hg]
    have := bsL_get k f hi
    rw [← h4, List.getElem?_take_of_lt (by omega)] at this
    simpa using this
/-- The own block of a row, with its cells. -/
theorem own_form {k : IntKind} {w : World} {B : Nat} {t : TypeId} {s : Value} {n : Nat} {f : Nat → Int} (h : w.ownsRow B t 1 s n (bsL k f n)) (hn : 0 < n) : ∃ g c, s = .slice (some ⟨g, 0, none⟩) n c ∧ B ≤ g := by
  obtain ⟨_, h | ⟨g, cap, cur, rfl, hB, _⟩⟩ := h
  · omega
  · exact ⟨g, cap, rfl, hB⟩
theorem add_off (b o j : Nat) : (⟨b, o, none⟩ : Addr).add j = ⟨b, o + j, none⟩ := add_at b o j
theorem lenOf_own {w : World} {B : Nat} {t : TypeId} {s : Value} {m : Nat} {xs : List Value} (h : w.ownsRow B t 1 s m xs) : ∃ p c, s = .slice p m c := by
  obtain ⟨h0, h | ⟨g, cap, cur, rfl, _⟩⟩ := h
  · obtain ⟨rfl, rfl⟩ := h; exact ⟨_, _, rfl⟩
  · exact ⟨_, _, rfl⟩
end Go.Proofs.YtmpagjijjahohaaGreatDoor
namespace Go.Proofs.YtmpagjijjahohaaGreatDoor
open Go.RowKit
theorem Grown.mk2 {W w' : World} (h : RowKit.Grown W w') (k : Below W.heap.size W w') : Grown W w' := ⟨h.1, h.2.1, h.2.2, k⟩
end Go.Proofs.YtmpagjijjahohaaGreatDoor
